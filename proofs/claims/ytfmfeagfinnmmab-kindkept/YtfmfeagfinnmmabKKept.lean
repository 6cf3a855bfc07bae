/- THE WALK OF KindKept. (By genkept.py.) -/
import Derived.Test.YtfmfeagfinnmmabKThingB
set_option linter.unusedVariables false
namespace Go.Proofs.Ytfmfeagfinnmmab
open Go.RowKit
open Go.Sort (grow)
open Vl (T)
open Mem Tg

/-- List, of whatever thing -/
theorem list_any {A : Nat → Prop} (t : Th) (v : Value) (w0 w : World) (hw : Below w0.heap.size w0 w) (h : Is A w t v) :
    Calls Try.prog 7 #[.agg #[v]] w fun e w' => (∃ mo N, e = .returned (.tuple #[.slice mo N N, .bool (t.kind == 5)]) ∧ N ≤ 100000 ∧ (0 < N → ∃ g M, mo = some ⟨g, 0, none⟩ ∧ w.heap.size ≤ g ∧ Block w' g M ∧ M.length = N)) ∧ Below w.heap.size w w' := by
  by_cases hk : t.kind = 5
  · cases t with
    | list ts =>
      refine (kind_list ts v w0 w hw h).mono ?_
      rintro e w' ⟨⟨g, vs, rfl, h1, h2, h3, h4⟩, b, _⟩
      exact ⟨⟨_, _, rfl, h4, fun _ => ⟨g, vs, rfl, h1, h2, h3.1.symm⟩⟩, b⟩
    | _ => exact absurd hk (by simp [Th.kind])
  · refine (kind_list_no t v w w (Below.refl _ _) h hk).mono ?_
    rintro e w' ⟨rfl, b⟩
    exact ⟨⟨none, 0, by rw [beq_eq_false_iff_ne.2 hk], by omega, fun h => by omega⟩, b⟩
def bad : T := ⟨-1, 0, .empty, 0, 0, 0⟩
set_option maxRecDepth 100000 in
set_option maxHeartbeats 4000000 in
theorem kindKept_walk (ls : List T) (ao : Option Addr) (n cap : Nat) (w : World) (hL : Vl.Ls w ao n cap ls) :
    Calls Try.prog 3 #[.slice ao n cap] w fun e w' => e = .returned (.bool true) ∧ Below w.heap.size w w' := by
  have HL := Lib.hid hL
  have HLen := Lib.hid hL.len
  have hfit := hL.fits
  have hcap := hL.reach
  clear hL
  go_enter Try.func3, Try.ntmps3
  go_wp2_with fail
  refine (thing_any ls ao n cap w HL.out).mono ?_
  rintro e w1 ⟨he, b1⟩
  obtain ⟨v, x, rfl, hv1, hIv⟩ : ∃ v x, e = .returned (.tuple #[.agg #[v], .bool x]) ∧ v.oneCell' = true ∧ (Kd.ofE ls = 0 → x = true ∧ ∃ t, Is (fun b => w.heap.size ≤ b) w1 t v ∧ ls = t.flat ∧ t.fits 0 0) := by
    rcases he with ⟨_, t, v, h1, h2, h3, h4⟩ | ⟨h1, h2⟩
    · exact ⟨v, true, h1, h2.oneCell, fun _ => ⟨rfl, t, h2, h3, h4⟩⟩
    · exact ⟨.nilIface, false, h2, rfl, fun h => absurd h h1⟩
  have hst := store_fresh w1 v hv1
  have bX := below_alloc w1 (.cells #[v] 26)
  have HIv := Lib.hid hIv
  have HB3 := Lib.hid (bchain b1 bX)
  have HbX := Lib.hid bX
  have HcX : Hid ((w1.alloc (.cells #[v] 26)).cell? ⟨w1.heap.size, 0, none⟩ = some v) := Lib.hid (by simp [go_sem])
  clear he b1 hIv bX
  by_cases hn : n = 0
  · subst hn
    go_wp2_with fail
    refine (kruns_any w _ HB3.out).mono ?_
    rintro e w9 ⟨rfl, b9⟩
    have HB9 := Lib.hid b9
    clear b9
    go_wp2_with fail
    go_ret
    exact ⟨rfl, HB9.out⟩
  have hz : ((n : Int) == 0) = false := beq_eq_false_iff_ne.2 (by omega)
  go_wp2_with fail
  refine (refKindOf_any ls ao n cap (w1.alloc (.cells #[v] 26)) _ (Below.refl _ _) (HL.out.below HB3.out)).mono ?_
  rintro e w2 ⟨rfl, b2⟩
  obtain ⟨X3, hX3⟩ : ∃ X, w1.alloc (.cells #[v] 26) = X := ⟨_, rfl⟩
  rw [hX3] at HB3 HbX HcX b2
  have HB2 := Lib.hid b2
  clear b2 hst hX3
  by_cases h0 : Kd.ofE ls = 0
  · obtain ⟨rfl, t, hI, hfl, hft⟩ := HIv.out h0
    rw [h0]
    have HI3 := Lib.hid (hI.stays HbX.out)
    have HFl := Lib.hid hfl
    have HFt := Lib.hid hft
    have hc2 := keepC HcX.out HB2.out
    have HSh := Lib.hid hI.short
    obtain ⟨b, off, rfl⟩ := HL.out.at (by omega)
    have HG : Hid (∀ X : World, Below w.heap.size w X → X.cell? ⟨b, off, none⟩ = some (.int .i64 t.kind)) := Lib.hid (fun X hX => by
      have hrow := HL.out.row 0 (by rw [← HLen.out]; omega)
      rw [Nat.zero_mul, Nat.add_zero] at hrow
      have e : ls[0]? = some t.head := by rw [HFl.out, Th.flat_eq]; rfl
      rw [List.getElem?_eq_getElem (by rw [← HLen.out]; omega)] at e
      have g0 := hrow.c0
      rw [Option.some.inj e, Th.head_kind] at g0
      exact keepC g0 hX)
    clear hI hfl hft h0
    go_wp2_with fail
    have hcall := list_any t v w2 w2 (Below.refl _ _) (HI3.out.stays HB2.out)
    cases hk5 : (t.kind == 5)
    · rw [hk5] at hcall
      refine hcall.mono ?_
      rintro e w4 ⟨⟨mo, N, rfl, hN, hgM⟩, b4⟩
      have HB4 := Lib.hid (bchain HB2.out b4)
      have HM4 : Hid (0 < N → ∃ g M, mo = some ⟨g, 0, none⟩ ∧ X3.heap.size ≤ g ∧ Block w4 g M ∧ M.length = N) := Lib.hid (fun h => by
        obtain ⟨g, M, h1, h2, h3, h4⟩ := hgM h
        exact ⟨g, M, h1, Nat.le_trans HB2.out.size h2, h3, h4⟩)
      clear hgM b4 hcall
      go_wp2_with fail
      go_loopw [7] (fun i wq => ∃ q : Nat, i = .int .i64 q ∧ q ≤ N ∧ Hid (0 < N → ∃ g M, mo = some ⟨g, 0, none⟩ ∧ X3.heap.size ≤ g ∧ Block wq g M ∧ M.length = N) ∧ Hid (Below X3.heap.size X3 wq)) (fun i _ => N - (intOf i).toNat)
      case atStart => exact ⟨0, rfl, by omega, HM4, HB4⟩
      case round =>
        obtain ⟨q, rfl, hq, HM, HB⟩ := hrel
        by_cases hlt : q < N
        · obtain ⟨g, M, rfl, hg, hblk, hMl⟩ := HM.out (by omega)
          have HMl := Lib.hid hMl
          have HBk := Lib.hid hblk
          clear hblk hMl
          go_wp2_with fail
          refine (from_text ⟨#[116, 117, 114, 110, 101, 100]⟩ wr wr (Below.refl _ _)).mono ?_
          rintro e z3 ⟨rfl, c3⟩
          have HBk3 := Lib.hid (HBk.out.below c3)
          have hc3 := HBk3.out.row q (by rw [HMl.out]; exact hlt)
          have hf3 := HBk3.out.frozen q
          have HB3' := Lib.hid (bchain HB.out c3)
          clear c3
          unfold tv
          go_wp2_with fail
          go_roundw
          case rel => exact ⟨q + 1, by go_num, by omega, Lib.hid (fun _ => ⟨g, _, rfl, hg, HBk3.out.store q _, by rw [List.length_set]; exact HMl.out⟩), Lib.hid (HB3'.out.setCell (p := ⟨g, q, none⟩) hg _)⟩
          case measure => simp [intOf]; omega
        · have hcr := keepC HcX.out HB.out
          go_wp2_with fail
          refine (kind_flat t v wr wr (Below.refl _ _) (HI3.out.stays HB.out).lt).mono ?_
          rintro e w5 ⟨he, b5⟩
          rcases he with ⟨_, sv, rfl, o5⟩ | ⟨hno, _⟩
          · obtain ⟨so, sc, rfl⟩ := own_val o5
            have hfl5 : t.flat.length = n := by rw [← HFl.out]; exact HLen.out.symm
            rw [hfl5] at o5 ⊢
            have HO5 := Lib.hid o5
            have HB5 := Lib.hid (bchain HB.out b5)
            have hsw : X3.heap.size ≤ wr.heap.size := HB.out.size
            clear o5 b5 hcr hfl5
            go_wp2_with fail
            go_loopw [10] (fun i wq => ∃ (q : Nat) (M : List T), i = .int .i64 q ∧ q ≤ n ∧ Hid (Vl.Own wq wr.heap.size (.slice so n sc) M) ∧ Hid (M.length = n) ∧ Hid (Below X3.heap.size X3 wq)) (fun i _ => n - (intOf i).toNat)
            case atStart => exact ⟨0, _, rfl, by omega, HO5, Lib.hid (by rw [← HFl.out]; exact HLen.out.symm), HB5⟩
            case round =>
              rename World => wq
              obtain ⟨q2, M, rfl, hq2, HOq, HMl, HBq⟩ := hrel
              by_cases hlt2 : q2 < n
              · have hsome : ∃ g, so = some ⟨g, 0, none⟩ := by
                  rcases HOq.out.2 with ⟨_, h2⟩ | ⟨g', _, _, h', _⟩
                  · have := HMl.out
                    omega
                  · simp only [Value.slice.injEq] at h'
                    exact ⟨g', h'.1⟩
                obtain ⟨g, rfl⟩ := hsome
                obtain ⟨hat, hfz, hgB⟩ := Vl.own_at HOq.out q2 (by rw [HMl.out]; exact hlt2)
                obtain ⟨c0, c1, c2, c3, c4, c5⟩ := hat
                go_wp2_with fail
                go_roundw
                case rel => exact ⟨q2 + 1, _, by go_num, by omega, Lib.hid (Vl.own_store HOq.out q2 (by rw [HMl.out]; exact hlt2) bad), Lib.hid (by rw [List.length_set]; exact HMl.out), Lib.hid (Vl.below_store HBq.out (by omega) q2 _ _ _ _ _ _)⟩
                case measure => simp [intOf]; omega
              · have hcq := keepC HcX.out HBq.out
                go_wp2_with fail
                refine (kind_flat t v wq wq (Below.refl _ _) (HI3.out.stays HBq.out).lt).mono ?_
                rintro e w6 ⟨he, b6⟩
                rcases he with ⟨_, sv6, rfl, o6⟩ | ⟨hno, _⟩
                · obtain ⟨so6, sc6, rfl, hLs6, _⟩ := Vl.own_ls o6 HSh.out
                  have hfl6 : t.flat.length = n := by rw [← HFl.out]; exact HLen.out.symm
                  rw [hfl6] at hLs6 ⊢
                  have HLs6 := Lib.hid hLs6
                  have HB6 := Lib.hid (bchain (bchain HB3.out HBq.out) b6)
                  have g0 := HG.out w6 HB6.out
                  clear o6 b6 hLs6 hfl6 hcq
                  go_wp2_with fail
                  refine (Vl.same_any t.flat ls so6 _ n n sc6 cap w6 w6 (Below.refl _ _) HLs6.out (HL.out.below HB6.out)).mono ?_
                  rintro e w7 ⟨rfl, b7⟩
                  rw [HFl.out, Vl.sameB_self]
                  have HB7 := Lib.hid (bchain HB6.out b7)
                  clear b7
                  go_wp2_with fail
                  refine (kruns_any w _ HB7.out).mono ?_
                  rintro e w8 ⟨rfl, b8⟩
                  have HB8 := Lib.hid b8
                  clear b8
                  go_wp2_with fail
                  go_ret
                  exact ⟨rfl, HB8.out⟩
                · exact absurd HFt.out hno
          · exact absurd HFt.out hno
    · rw [hk5] at hcall
      refine hcall.mono ?_
      rintro e w4 ⟨⟨mo, N, rfl, hN, hgM⟩, b4⟩
      have HB4 := Lib.hid (bchain HB2.out b4)
      have HM4 : Hid (0 < N → ∃ g M, mo = some ⟨g, 0, none⟩ ∧ X3.heap.size ≤ g ∧ Block w4 g M ∧ M.length = N) := Lib.hid (fun h => by
        obtain ⟨g, M, h1, h2, h3, h4⟩ := hgM h
        exact ⟨g, M, h1, Nat.le_trans HB2.out.size h2, h3, h4⟩)
      clear hgM b4 hcall
      go_wp2_with fail
      go_loopw [7] (fun i wq => ∃ q : Nat, i = .int .i64 q ∧ q ≤ N ∧ Hid (0 < N → ∃ g M, mo = some ⟨g, 0, none⟩ ∧ X3.heap.size ≤ g ∧ Block wq g M ∧ M.length = N) ∧ Hid (Below X3.heap.size X3 wq)) (fun i _ => N - (intOf i).toNat)
      case atStart => exact ⟨0, rfl, by omega, HM4, HB4⟩
      case round =>
        obtain ⟨q, rfl, hq, HM, HB⟩ := hrel
        by_cases hlt : q < N
        · obtain ⟨g, M, rfl, hg, hblk, hMl⟩ := HM.out (by omega)
          have HMl := Lib.hid hMl
          have HBk := Lib.hid hblk
          clear hblk hMl
          go_wp2_with fail
          refine (from_text ⟨#[116, 117, 114, 110, 101, 100]⟩ wr wr (Below.refl _ _)).mono ?_
          rintro e z3 ⟨rfl, c3⟩
          have HBk3 := Lib.hid (HBk.out.below c3)
          have hc3 := HBk3.out.row q (by rw [HMl.out]; exact hlt)
          have hf3 := HBk3.out.frozen q
          have HB3' := Lib.hid (bchain HB.out c3)
          clear c3
          unfold tv
          go_wp2_with fail
          go_roundw
          case rel => exact ⟨q + 1, by go_num, by omega, Lib.hid (fun _ => ⟨g, _, rfl, hg, HBk3.out.store q _, by rw [List.length_set]; exact HMl.out⟩), Lib.hid (HB3'.out.setCell (p := ⟨g, q, none⟩) hg _)⟩
          case measure => simp [intOf]; omega
        · have hcr := keepC HcX.out HB.out
          go_wp2_with fail
          refine (kind_flat t v wr wr (Below.refl _ _) (HI3.out.stays HB.out).lt).mono ?_
          rintro e w5 ⟨he, b5⟩
          rcases he with ⟨_, sv, rfl, o5⟩ | ⟨hno, _⟩
          · obtain ⟨so, sc, rfl⟩ := own_val o5
            have hfl5 : t.flat.length = n := by rw [← HFl.out]; exact HLen.out.symm
            rw [hfl5] at o5 ⊢
            have HO5 := Lib.hid o5
            have HB5 := Lib.hid (bchain HB.out b5)
            have hsw : X3.heap.size ≤ wr.heap.size := HB.out.size
            clear o5 b5 hcr hfl5
            go_wp2_with fail
            go_loopw [10] (fun i wq => ∃ (q : Nat) (M : List T), i = .int .i64 q ∧ q ≤ n ∧ Hid (Vl.Own wq wr.heap.size (.slice so n sc) M) ∧ Hid (M.length = n) ∧ Hid (Below X3.heap.size X3 wq)) (fun i _ => n - (intOf i).toNat)
            case atStart => exact ⟨0, _, rfl, by omega, HO5, Lib.hid (by rw [← HFl.out]; exact HLen.out.symm), HB5⟩
            case round =>
              rename World => wq
              obtain ⟨q2, M, rfl, hq2, HOq, HMl, HBq⟩ := hrel
              by_cases hlt2 : q2 < n
              · have hsome : ∃ g, so = some ⟨g, 0, none⟩ := by
                  rcases HOq.out.2 with ⟨_, h2⟩ | ⟨g', _, _, h', _⟩
                  · have := HMl.out
                    omega
                  · simp only [Value.slice.injEq] at h'
                    exact ⟨g', h'.1⟩
                obtain ⟨g, rfl⟩ := hsome
                obtain ⟨hat, hfz, hgB⟩ := Vl.own_at HOq.out q2 (by rw [HMl.out]; exact hlt2)
                obtain ⟨c0, c1, c2, c3, c4, c5⟩ := hat
                go_wp2_with fail
                go_roundw
                case rel => exact ⟨q2 + 1, _, by go_num, by omega, Lib.hid (Vl.own_store HOq.out q2 (by rw [HMl.out]; exact hlt2) bad), Lib.hid (by rw [List.length_set]; exact HMl.out), Lib.hid (Vl.below_store HBq.out (by omega) q2 _ _ _ _ _ _)⟩
                case measure => simp [intOf]; omega
              · have hcq := keepC HcX.out HBq.out
                go_wp2_with fail
                refine (kind_flat t v wq wq (Below.refl _ _) (HI3.out.stays HBq.out).lt).mono ?_
                rintro e w6 ⟨he, b6⟩
                rcases he with ⟨_, sv6, rfl, o6⟩ | ⟨hno, _⟩
                · obtain ⟨so6, sc6, rfl, hLs6, _⟩ := Vl.own_ls o6 HSh.out
                  have hfl6 : t.flat.length = n := by rw [← HFl.out]; exact HLen.out.symm
                  rw [hfl6] at hLs6 ⊢
                  have HLs6 := Lib.hid hLs6
                  have HB6 := Lib.hid (bchain (bchain HB3.out HBq.out) b6)
                  have g0 := HG.out w6 HB6.out
                  clear o6 b6 hLs6 hfl6 hcq
                  go_wp2_with fail
                  refine (Vl.same_any t.flat ls so6 _ n n sc6 cap w6 w6 (Below.refl _ _) HLs6.out (HL.out.below HB6.out)).mono ?_
                  rintro e w7 ⟨rfl, b7⟩
                  rw [HFl.out, Vl.sameB_self]
                  have HB7 := Lib.hid (bchain HB6.out b7)
                  clear b7
                  go_wp2_with fail
                  refine (kruns_any w _ HB7.out).mono ?_
                  rintro e w8 ⟨rfl, b8⟩
                  have HB8 := Lib.hid b8
                  clear b8
                  go_wp2_with fail
                  go_ret
                  exact ⟨rfl, HB8.out⟩
                · exact absurd HFt.out hno
          · exact absurd HFt.out hno
  · have hne : (Kd.ofE ls != 0) = true := bne_iff_ne.2 h0
    have HB4 := Lib.hid (bchain HB3.out HB2.out)
    clear h0
    go_wp2_with fail
    refine (kruns_any w _ HB4.out).mono ?_
    rintro e w9 ⟨rfl, b9⟩
    have HB9 := Lib.hid b9
    clear b9
    go_wp2_with fail
    go_ret
    exact ⟨rfl, HB9.out⟩
end Go.Proofs.Ytfmfeagfinnmmab
