/- THE DOCUMENT's OWN ANSWER, as impostlaw13 has it: look. -/
import Derived.Test.YtfilanbjfnnknaaRfFr
set_option linter.unusedVariables false
set_option maxRecDepth 100000
namespace Go.Proofs.Ytfilanbjfnnknaa
open Go.RowKit
open Mem

set_option maxHeartbeats 4000000 in
theorem lw_look (rs : List Sn.T) (i q : Int) (ao : Option Addr) (n cap : Nat) (w0 w : World) (hw : Below w0.heap.size w0 w) (hR : Sn.Ls w ao n cap rs) :
    Calls Try.prog 14 #[.slice ao n cap, .int .i64 i, .int .i64 q] w (LookE w0 rs i q) := by
  have HW := Lib.hid hw
  have HN := Lib.hid hR.len
  have hcap := hR.reach
  have hfit := hR.fits
  have HBw := Lib.hid (And.intro (bchain HW.out (Rp.below_own w Rp.zero)) HW.out.size)
  have HC := Lib.hid (Rp.c_box w Rp.zero)
  have HF := Lib.hid (Rp.frz w Rp.zero)
  have HU := Lib.hid (hR.below (Rp.below_own w Rp.zero))
  have HSz : Hid (w.heap.size < (Rp.box w Rp.zero).heap.size) := Lib.hid (by rw [Rp.box_size]; omega)
  clear hw hR
  go_enter Try.func14, Try.ntmps14
  go_wp2_with fail
  rw [show w.alloc (.cells #[.int .i64 0, .int .i64 0, .int .i64 0] 24) = Rp.box w Rp.zero from rfl]
  generalize Rp.box w Rp.zero = U at *
  obtain ⟨g, hg⟩ : ∃ g, w.heap.size = g := ⟨_, rfl⟩
  have HG : Hid (w0.heap.size ≤ g) := Lib.hid (hg ▸ HBw.out.2)
  rw [hg] at HC HF HSz
  try rw [hg]
  clear hg
  refine (rses_right rs ao n cap U _ (Below.refl _ _) HU.out).mono ?_
  rintro e w1 ⟨rfl, b1⟩
  have HB1 := Lib.hid (bchain HBw.out.1 b1)
  have HU1 := Lib.hid (HU.out.below b1)
  have HC1 := Lib.hid (HC.out.below b1)
  have HF1 : Hid (∀ k, w1.frozen? ⟨g, k, none⟩ = false) := Lib.hid fun k => ((bcell b1).2 g k HSz.out).trans (HF.out k)
  have HSz1 : Hid (g < w1.heap.size) := Lib.hid (Nat.lt_of_lt_of_le HSz.out b1.size)
  clear b1 HC HF HU HSz
  cases hT : Sp.rightB rs
  · have HE := Lib.hid (Sp.look_arg (i := i) (q := q) hT)
    have HE2 := Lib.hid (Sp.look_bad (l := rs) (i := i) (q := q) (by rw [HE.out]; omega))
    have hC := HC1.out
    unfold Rp.C Rp.zero at hC
    obtain ⟨a0, a1, a2⟩ := hC
    have f0 := HF1.out 0
    have f1 := HF1.out 1
    have f2 := HF1.out 2
    clear hT
    go_wp2_with fail
    exact bodyPost_ret (v := .tuple #[Rp.val (Sp.rep Sn.zero), .bool false, .int .i64 1]) (by simp [results, Rp.val, Sp.rep, Sn.zero, Try.results14, go_sem, a0, a1, a2]) rfl ⟨by rw [HE.out, HE2.out.2, HE2.out.1], bset (bset (bset HB1.out HG.out _ _) HG.out _ _) HG.out _ _⟩
  · have HT := Lib.hid hT
    clear hT
    go_wp2_with fail
    refine (rfresh rs i q ao n cap w1 _ (Below.refl _ _) HU1.out HT.out).mono ?_
    rintro e w2 ⟨rfl, b2⟩
    have HB2 := Lib.hid (bchain HB1.out b2)
    have HC2 := Lib.hid (HC1.out.below b2)
    have HF2 : Hid (∀ k, w2.frozen? ⟨g, k, none⟩ = false) := Lib.hid fun k => ((bcell b2).2 g k HSz1.out).trans (HF1.out k)
    have HSz2 : Hid (g < w2.heap.size) := Lib.hid (Nat.lt_of_lt_of_le HSz1.out b2.size)
    clear b2
    obtain ⟨r, hr⟩ : ∃ r, Sp.rep (Sp.lookT rs i q) = r := ⟨_, rfl⟩
    rw [hr]
    have HR := Lib.hid hr
    clear hr
    obtain ⟨E, hE⟩ : ∃ E, Sp.lookE rs i q = E := ⟨_, rfl⟩
    rw [hE]
    have HE := Lib.hid hE
    clear hE
    obtain ⟨V, hV, hbV, hCV⟩ := Rp.boxed1 w2 r
    have HB3 := Lib.hid (bchain HB2.out hbV)
    have hC := HC2.out.below hbV
    unfold Rp.C Rp.zero at hC
    obtain ⟨a0, a1, a2⟩ := hC
    have hF : ∀ k, V.frozen? ⟨g, k, none⟩ = false := fun k => ((bcell hbV).2 g k HSz2.out).trans (HF2.out k)
    have f0 := hF 0
    have f1 := hF 1
    have f2 := hF 2
    unfold Rp.C at hCV
    obtain ⟨v0, v1, v2⟩ := hCV
    have hne : ¬ w2.heap.size = g := by have := HSz2.out; omega
    unfold Rp.val
    clear hbV hF
    cases hO : Sp.lookO rs i q
    · have HO := Lib.hid hO
      rw [Sp.old_0 hO]
      clear hO
      go_wp2_with fail
      exact bodyPost_ret (v := .tuple #[Rp.val r, .bool false, .int .i64 E]) (by simp [results, Rp.val, Try.results14, go_sem, a0, a1, a2]) rfl ⟨by rw [HE.out, HR.out, HO.out], bset (bset (bset HB3.out HG.out _ _) HG.out _ _) HG.out _ _⟩
    · have HO := Lib.hid hO
      rw [Sp.old_1 hO]
      clear hO
      go_wp2_with fail
      exact bodyPost_ret (v := .tuple #[Rp.val r, .bool true, .int .i64 E]) (by simp [results, Rp.val, Try.results14, go_sem, a0, a1, a2]) rfl ⟨by rw [HE.out, HR.out, HO.out], bset (bset (bset HB3.out HG.out _ _) HG.out _ _) HG.out _ _⟩
end Go.Proofs.Ytfilanbjfnnknaa
