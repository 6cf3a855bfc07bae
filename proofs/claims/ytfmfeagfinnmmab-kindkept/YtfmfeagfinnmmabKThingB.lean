/- impostlaw8's thing: a thing of values. -/
import Derived.Test.YtfmfeagfinnmmabKLawB
namespace Go.Proofs.Ytfmfeagfinnmmab
open Go.RowKit
open Go.Sort (grow)
open Vl (T)
open Mem Tg

/-- what thing answers -/
def thingP (l : List T) (w : World) (e : Ending) (w' : World) : Prop :=
  (Kd.ofE l = 0 ∧ ∃ t v, e = .returned (.tuple #[.agg #[v], .bool true]) ∧ Is (fun b => w.heap.size ≤ b) w' t v ∧ l = t.flat ∧ t.fits 0 0) ∨
  (Kd.ofE l ≠ 0 ∧ e = .returned (.tuple #[.agg #[.nilIface], .bool false]))
set_option maxHeartbeats 2000000 in
theorem thing_any (l : List T) (ao : Option Addr) (n cap : Nat) (w : World) (hL : Vl.Ls w ao n cap l) :
    Calls Try.prog 4 #[.slice ao n cap] w fun e w' => thingP l w e w' ∧ Below w.heap.size w w' := by
  have HL := Lib.hid hL
  clear hL
  have bX : Below w.heap.size w (w.alloc (.cells #[.nilIface] 26)) := (Below.refl _ _).alloc (Nat.le_refl _) _
  have HBX := Lib.hid bX
  have HsX : Hid ((w.alloc (.cells #[.nilIface] 26)).heap.size = w.heap.size + 1) := Lib.hid (by simp)
  have HcX : Hid ((w.alloc (.cells #[.nilIface] 26)).cell? ⟨w.heap.size, 0, none⟩ = some .nilIface) := Lib.hid (by simp [go_sem])
  have HfX : Hid ((w.alloc (.cells #[.nilIface] 26)).frozen? ⟨w.heap.size, 0, none⟩ = false) := Lib.hid (by simp [go_sem])
  clear bX
  go_enter Try.func4, Try.ntmps4
  go_wp2_with fail
  refine (refKindOf_any l ao n cap (w.alloc (.cells #[.nilIface] 26)) _ (Below.refl _ _) (HL.out.below HBX.out)).mono ?_
  rintro e w1 ⟨rfl, b1⟩
  have hc1 : w1.cell? ⟨w.heap.size, 0, none⟩ = some .nilIface := by
    rw [(bcell b1).1 _ _ (cell_lt HcX.out)]
    exact HcX.out
  have hf1 : w1.frozen? ⟨w.heap.size, 0, none⟩ = false := by
    rw [(bcell b1).2 _ _ (cell_lt HcX.out)]
    exact HfX.out
  have HB1 := Lib.hid (bchain HBX.out b1)
  have hs1 := b1.size
  rw [HsX.out] at hs1
  clear b1
  by_cases h0 : Kd.ofE l = 0
  · rw [h0]
    have H0 := Lib.hid h0
    have Hc1 := Lib.hid hc1
    have Hf1 := Lib.hid hf1
    go_wp2_with fail
    refine (kind_of l ao n cap w1 w1 (Below.refl _ _) (HL.out.below HB1.out)).mono ?_
    rintro e w2 ⟨he, b2⟩
    obtain ⟨t, v, rfl, hI, hflat, hfits⟩ := of_zero he H0.out
    have hv1 := hI.oneCell
    have hst := store_fresh w2 v hv1
    have hs2 := b2.size
    have bZ : Below w2.heap.size w2 (w2.alloc (.cells #[v] 26)) := (Below.refl _ _).alloc (Nat.le_refl _) _
    have hcz : (w2.alloc (.cells #[v] 26)).cell? ⟨w.heap.size, 0, none⟩ = some .nilIface := by
      rw [(bcell bZ).1 _ _ (by omega), (bcell b2).1 _ _ (by omega)]
      exact Hc1.out
    have hfz : (w2.alloc (.cells #[v] 26)).frozen? ⟨w.heap.size, 0, none⟩ = false := by
      rw [(bcell bZ).2 _ _ (by omega), (bcell b2).2 _ _ (by omega)]
      exact Hf1.out
    have hst2 := store_at hcz hfz hv1
    have HI := Lib.hid (hI.stays bZ)
    have HFl := Lib.hid hflat
    have HFt := Lib.hid hfits
    have HB2 := Lib.hid (bchain (bchain HB1.out b2) bZ)
    clear he hI hflat hfits bZ b2 h0
    go_wp2_with fail
    refine bodyPost_ret (v := .tuple #[.agg #[v], .bool true]) (by simp [results, Try.results4, go_sem, hcz]) rfl ⟨.inl ⟨H0.out, t, v, rfl, ?_, HFl.out, HFt.out⟩, HB2.out.setCell (p := ⟨w.heap.size, 0, none⟩) (Nat.le_refl _) _⟩
    refine HI.out.frame (fun b a o z e => ?_) (fun b _ _ _ a => by omega)
    have hne : b ≠ w.heap.size := by omega
    simp [go_sem, e]
  · have hne : (Kd.ofE l != 0) = true := bne_iff_ne.2 h0
    have H0 := Lib.hid h0
    clear h0
    go_wp2_with fail
    exact bodyPost_ret (v := .tuple #[.agg #[.nilIface], .bool false]) (by simp [results, Try.results4, go_sem, hc1]) rfl ⟨.inr ⟨H0.out, rfl⟩, HB1.out.setCell (p := ⟨w.heap.size, 0, none⟩) (Nat.le_refl _) _⟩
end Go.Proofs.Ytfmfeagfinnmmab
