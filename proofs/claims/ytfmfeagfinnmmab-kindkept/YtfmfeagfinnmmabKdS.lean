/- CONTRACTS OF PACKAGE kind: Same. -/
import Derived.Test.YtfmfeagfinnmmabKdL
import Derived.Test.YtfmfeagfinnmmabEqV
namespace Go.Proofs.Ytfmfeagfinnmmab
open Go.RowKit
open Vl (T)
open Mem Tg

/-- what Same answers -/
def sameP (a b : Th) (e : Ending) : Prop := ∃ B : Bool, e = .returned (.bool B) ∧ (B = true ↔ a.fits 0 0 ∧ b.fits 0 0 ∧ a.flat = b.flat)
set_option maxHeartbeats 2000000 in
theorem kind_same {A A' : Nat → Prop} (a b : Th) (u v : Value) (w0 w : World) (hw : Below w0.heap.size w0 w) (ha : Is A w a u) (hb : Is A' w b v) :
    Calls Try.prog 13 #[tv u, tv v] w fun e w' => sameP a b e ∧ Below w0.heap.size w0 w' := by
  have HW := Lib.hid hw
  have h1 := ha.oneCell
  have h2 := hb.oneCell
  have bX : Below w.heap.size w ((w.alloc (.cells #[u] 26)).alloc (.cells #[v] 26)) := ((Below.refl _ _).alloc (Nat.le_refl _) _).alloc (by simp) _
  have HSa := Lib.hid ha.short
  have HSb := Lib.hid hb.short
  have HA := Lib.hid (ha.stays bX).lt
  have HB := Lib.hid (hb.stays bX)
  have HBX := Lib.hid bX
  have hcv : ((w.alloc (.cells #[u] 26)).alloc (.cells #[v] 26)).cell? ⟨w.heap.size + 1, 0, none⟩ = some v := by simp [go_sem]
  obtain ⟨X, hX⟩ : ∃ X, (w.alloc (.cells #[u] 26)).alloc (.cells #[v] 26) = X := ⟨_, rfl⟩
  have hcu : X.cell? ⟨w.heap.size, 0, none⟩ = some u := by rw [← hX]; simp [go_sem]
  rw [hX] at HA HB HBX hcv
  have HCv := Lib.hid hcv
  clear hw ha hb bX
  unfold tv
  go_enter Try.func13, Try.ntmps13
  go_wp2_with fail
  refine (kind_flat a u X X (Below.refl _ _) HA.out).mono ?_
  rintro e w1 ⟨he, b1⟩
  have HB1 := Lib.hid b1
  have hcv1 : w1.cell? ⟨w.heap.size + 1, 0, none⟩ = some v := by
    rw [(bcell b1).1 _ _ (cell_lt HCv.out)]
    exact HCv.out
  have HIb := Lib.hid ((HB.out.stays b1).lt)
  clear b1 hX hcu hcv
  rcases he with ⟨hf, s1, rfl, o1⟩ | ⟨hf, rfl⟩
  · have HF := Lib.hid hf
    obtain ⟨ao, ac, rfl, hLa, _⟩ := Vl.own_ls o1 HSa.out
    have HLa := Lib.hid hLa
    clear hf o1 hLa
    go_wp2_with fail
    refine (kind_flat b v w1 w1 (Below.refl _ _) HIb.out).mono ?_
    rintro e w2 ⟨he, b2⟩
    have HB2 := Lib.hid b2
    clear b2
    rcases he with ⟨hg, s2, rfl, o2⟩ | ⟨hg, rfl⟩
    · have HG := Lib.hid hg
      obtain ⟨bo, bc, rfl, hLb, _⟩ := Vl.own_ls o2 HSb.out
      have HLb := Lib.hid hLb
      clear hg o2 hLb
      go_wp2_with fail
      refine (Vl.equal_any a.flat b.flat ao bo _ _ ac bc w2 w2 (Below.refl _ _) (HLa.out.below HB2.out) HLb.out).mono ?_
      rintro e w3 ⟨rfl, b3⟩
      have HB3 := Lib.hid b3
      clear b3
      go_wp2_with fail
      go_ret
      exact ⟨⟨_, rfl, by rw [Vl.sameB_iff]; exact ⟨fun h => ⟨HF.out, HG.out, h⟩, fun h => h.2.2⟩⟩, bchain (bchain (bchain (bchain HW.out HBX.out) HB1.out) HB2.out) HB3.out⟩
    · have HG := Lib.hid hg
      clear hg
      go_wp2_with fail
      go_ret
      exact ⟨⟨false, rfl, by simp; exact fun _ h => absurd h HG.out⟩, bchain (bchain (bchain HW.out HBX.out) HB1.out) HB2.out⟩
  · have HF := Lib.hid hf
    clear hf
    go_wp2_with fail
    refine (kind_flat b v w1 w1 (Below.refl _ _) HIb.out).mono ?_
    rintro e w2 ⟨he, b2⟩
    have HB2 := Lib.hid b2
    clear b2
    rcases he with ⟨hg, s2, rfl, o2⟩ | ⟨hg, rfl⟩
    · obtain ⟨bo, bc, rfl⟩ := own_val o2
      clear hg o2
      go_wp2_with fail
      go_ret
      exact ⟨⟨false, rfl, by simp; exact fun h => absurd h HF.out⟩, bchain (bchain (bchain HW.out HBX.out) HB1.out) HB2.out⟩
    · clear hg
      go_wp2_with fail
      go_ret
      exact ⟨⟨false, rfl, by simp; exact fun h => absurd h HF.out⟩, bchain (bchain (bchain HW.out HBX.out) HB1.out) HB2.out⟩
end Go.Proofs.Ytfmfeagfinnmmab
