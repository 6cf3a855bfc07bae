/- THE WALK OF KindSame. -/
import Derived.Test.YtfmfeagfinnmmaaKThing
namespace Go.Proofs.Ytfmfeagfinnmmaa
open Go.RowKit
open Go.Sort (grow)
open Vl (T)
open Mem Tg

theorem same_is {A A' : Nat → Prop} (a b : Th) (u v : Value) (w0 w : World) (hw : Below w0.heap.size w0 w) (ha : Is A w a u) (hb : Is A' w b v) (hf : a.fits 0 0) (hg : b.fits 0 0) :
    Calls Try.prog 11 #[.agg #[u], .agg #[v]] w fun e w' => e = .returned (.bool (Vl.sameB a.flat b.flat)) ∧ Below w0.heap.size w0 w' :=
  (kind_same a b u v w0 w hw ha hb).mono fun e w' ⟨⟨B, he, hB⟩, hb⟩ => ⟨by
    rw [he]
    congr 2
    rw [Bool.eq_iff_iff, hB, Vl.sameB_iff]
    exact ⟨fun h => h.2.2, fun h => ⟨hf, hg, h⟩⟩, hb⟩
theorem sameB_comm (l m : List T) : Vl.sameB l m = Vl.sameB m l := by
  rw [Bool.eq_iff_iff, Vl.sameB_iff, Vl.sameB_iff]
  exact ⟨fun h => h.symm, fun h => h.symm⟩
set_option maxHeartbeats 4000000 in
theorem kindSame_walk (ls : List T) (ao : Option Addr) (n cap : Nat) (ms : List T) (bo : Option Addr) (m cb : Nat) (w : World) (hA : Vl.Ls w ao n cap ls) (hB : Vl.Ls w bo m cb ms) :
    Calls Try.prog 6 #[.slice ao n cap, .slice bo m cb] w fun e w' => e = .returned (.bool true) ∧ Below w.heap.size w w' := by
  have HA := Lib.hid hA
  have HB := Lib.hid hB
  clear hA hB
  -- what is left where one of them is no thing
  go_enter Try.func6, Try.ntmps6
  go_wp2_with fail
  refine (thing_any ls ao n cap w HA.out).mono ?_
  rintro e w1 ⟨he, b1⟩
  obtain ⟨u, x, rfl, hu1, hIu⟩ : ∃ u x, e = .returned (.tuple #[.agg #[u], .bool x]) ∧ u.oneCell' = true ∧ (Kd.ofE ls = 0 → x = true ∧ ∃ t, Is (fun b => w.heap.size ≤ b) w1 t u ∧ ls = t.flat ∧ t.fits 0 0) := by
    rcases he with ⟨_, t, v, h1, h2, h3, h4⟩ | ⟨h1, h2⟩
    · exact ⟨v, true, h1, h2.oneCell, fun _ => ⟨rfl, t, h2, h3, h4⟩⟩
    · exact ⟨.nilIface, false, h2, rfl, fun h => absurd h h1⟩
  have hst := store_fresh w1 u hu1
  have bX : Below w1.heap.size w1 (w1.alloc (.cells #[u] 25)) := (Below.refl _ _).alloc (Nat.le_refl _) _
  have HBX := Lib.hid (bchain b1 bX)
  have HBx := Lib.hid bX
  have HIu := Lib.hid hIu
  have HcX : Hid ((w1.alloc (.cells #[u] 25)).cell? ⟨w1.heap.size, 0, none⟩ = some u) := Lib.hid (by simp [go_sem])
  clear he b1 hIu bX
  go_wp2_with fail
  refine (thing_any ms bo m cb _ (HB.out.below HBX.out)).mono ?_
  rintro e w2 ⟨he, b2⟩
  obtain ⟨v, y, rfl, hv1, hIv⟩ : ∃ v y, e = .returned (.tuple #[.agg #[v], .bool y]) ∧ v.oneCell' = true ∧ (Kd.ofE ms = 0 → y = true ∧ ∃ t, Is (fun _ => True) w2 t v ∧ ms = t.flat ∧ t.fits 0 0) := by
    rcases he with ⟨_, t, v, h1, h2, h3, h4⟩ | ⟨h1, h2⟩
    · exact ⟨v, true, h1, h2.oneCell, fun _ => ⟨rfl, t, h2.any, h3, h4⟩⟩
    · exact ⟨.nilIface, false, h2, rfl, fun h => absurd h h1⟩
  clear hst
  have hst := store_fresh w2 v hv1
  have bY : Below w2.heap.size w2 (w2.alloc (.cells #[v] 25)) := (Below.refl _ _).alloc (Nat.le_refl _) _
  have HBXY := Lib.hid (bchain b2 bY)
  have HBY := Lib.hid (bchain HBX.out HBXY.out)
  have HBy := Lib.hid bY
  have HIv := Lib.hid hIv
  have HcU : Hid ((w2.alloc (.cells #[v] 25)).cell? ⟨w1.heap.size, 0, none⟩ = some u) := Lib.hid (by
    rw [(bcell HBXY.out).1 _ _ (cell_lt HcX.out)]
    exact HcX.out)
  have HcV : Hid ((w2.alloc (.cells #[v] 25)).cell? ⟨w2.heap.size, 0, none⟩ = some v) := Lib.hid (by simp [go_sem])
  clear he b2 hIv bY
  go_wp2_with fail
  refine (refKindOf_any ls ao n cap (w2.alloc (.cells #[v] 25)) _ (Below.refl _ _) (HA.out.below HBY.out)).mono ?_
  rintro e w3 ⟨rfl, b3⟩
  have HB3 := Lib.hid b3
  clear b3 hst
  by_cases h0 : Kd.ofE ls = 0
  · obtain ⟨rfl, s, hs1, hs2, hs3⟩ := HIu.out h0
    rw [h0]
    have HIs := Lib.hid hs1
    have HSf := Lib.hid hs2
    have HSt := Lib.hid hs3
    clear hs1 hs2 hs3 h0
    go_wp2_with fail
    refine (refKindOf_any ms bo m cb (w2.alloc (.cells #[v] 25)) _ HB3.out ((HB.out.below HBY.out).below HB3.out)).mono ?_
    rintro e w4 ⟨rfl, b4⟩
    have HB4 := Lib.hid b4
    clear b4
    by_cases h1 : Kd.ofE ms = 0
    · obtain ⟨rfl, t, ht1, ht2, ht3⟩ := HIv.out h1
      rw [h1]
      have HIt := Lib.hid ht1
      have HTf := Lib.hid ht2
      have HTt := Lib.hid ht3
      clear ht1 ht2 ht3 h1
      have hcu : w4.cell? ⟨w1.heap.size, 0, none⟩ = some u := by
        rw [(bcell HB4.out).1 _ _ (cell_lt HcU.out)]
        exact HcU.out
      have hcv : w4.cell? ⟨w2.heap.size, 0, none⟩ = some v := by
        rw [(bcell HB4.out).1 _ _ (cell_lt HcV.out)]
        exact HcV.out
      have HIs4 := Lib.hid (((HIs.out.stays HBx.out).stays HBXY.out).stays HB4.out)
      have HIt4 := Lib.hid ((HIt.out.stays HBy.out).stays HB4.out)
      have HBw4 := Lib.hid (bchain HBY.out HB4.out)
      have HHu := Lib.hid hcu
      have HHv := Lib.hid hcv
      obtain ⟨B, hBB⟩ : ∃ B, Vl.sameB ls ms = B := ⟨_, rfl⟩
      have HBB := Lib.hid hBB
      have hBe : (B == B) = true := beq_self_eq_true _
      clear hBB
      go_wp2_with fail
      refine (same_is s t u v w4 w4 (Below.refl _ _) HIs4.out HIt4.out HSt.out HTt.out).mono ?_
      rintro e w5 ⟨rfl, b5⟩
      rw [← HSf.out, ← HTf.out, HBB.out]
      have HB5 := Lib.hid b5
      clear b5 hcu hcv
      go_wp2_with fail
      refine (Vl.same_any ls ms ao bo n m cap cb w4 _ HB5.out ((HA.out.below HBw4.out).below HB5.out) ((HB.out.below HBw4.out).below HB5.out)).mono ?_
      rintro e w6 ⟨rfl, b6⟩
      rw [HBB.out]
      have HB6 := Lib.hid b6
      have hcu : w6.cell? ⟨w1.heap.size, 0, none⟩ = some u := by
        rw [(bcell b6).1 _ _ (cell_lt HHu.out)]
        exact HHu.out
      have hcv : w6.cell? ⟨w2.heap.size, 0, none⟩ = some v := by
        rw [(bcell b6).1 _ _ (cell_lt HHv.out)]
        exact HHv.out
      clear b6
      go_wp2_with fail
      refine (same_is t s v u w4 _ HB6.out (HIt4.out.stays HB6.out) (HIs4.out.stays HB6.out) HTt.out HSt.out).mono ?_
      rintro e w7 ⟨rfl, b7⟩
      rw [← HSf.out, ← HTf.out, sameB_comm, HBB.out]
      have HB7 := Lib.hid b7
      clear b7 hcu hcv
      go_wp2_with fail
      refine (Vl.same_any ls ms ao bo n m cap cb w4 _ HB7.out ((HA.out.below HBw4.out).below HB7.out) ((HB.out.below HBw4.out).below HB7.out)).mono ?_
      rintro e w8 ⟨rfl, b8⟩
      rw [HBB.out]
      have HB8 := Lib.hid b8
      clear b8
      go_wp2_with fail
      refine (kruns_any w4 _ HB8.out).mono ?_
      rintro e w9 ⟨rfl, b9⟩
      have HB9 := Lib.hid b9
      clear b9
      go_wp2_with fail
      go_ret
      exact ⟨rfl, bchain HBw4.out HB9.out⟩
    · have hne : (Kd.ofE ms != 0) = true := bne_iff_ne.2 h1
      have HB5 := Lib.hid (bchain HBY.out HB4.out)
      clear h1
      go_wp2_with fail
      refine (kruns_any w _ HB5.out).mono ?_
      rintro e w5 ⟨rfl, b5⟩
      have HB6 := Lib.hid b5
      clear b5
      go_wp2_with fail
      go_ret
      exact ⟨rfl, HB6.out⟩
  · have hne : (Kd.ofE ls != 0) = true := bne_iff_ne.2 h0
    have HB5 := Lib.hid (bchain HBY.out HB3.out)
    clear h0
    go_wp2_with fail
    refine (kruns_any w _ HB5.out).mono ?_
    rintro e w5 ⟨rfl, b5⟩
    have HB6 := Lib.hid b5
    clear b5
    go_wp2_with fail
    go_ret
    exact ⟨rfl, HB6.out⟩
end Go.Proofs.Ytfmfeagfinnmmaa
