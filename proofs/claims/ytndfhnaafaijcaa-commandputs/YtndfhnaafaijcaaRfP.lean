/- THE DOCUMENT's OWN ANSWER: impostref8.Put. (By genrput.py.) -/
import Derived.Test.YtndfhnaafaijcaaRfPa
import Derived.Test.YtndfhnaafaijcaaRfPb
import Derived.Test.YtndfhnaafaijcaaRfPc
set_option linter.unusedVariables false
set_option maxRecDepth 100000
namespace Go.Proofs.Ytndfhnaafaijcaa
open Go.RowKit
open Mem Pk Cm
set_option maxHeartbeats 8000000 in
theorem rput_no (c : Cm.T) (ls : List Ln.T) (w : World) (hI : Cm.In w c ls) (hk : ¬ (1 ≤ c.kind ∧ c.kind ≤ 8)) :
    Calls Try.prog 23 #[Cm.val c] w (RPutE (c.sem ls) w) := by
  have HE : Hid ((c.sem ls).putE = 17) := Lib.hid (by unfold S.putE; exact if_pos hk)
  have HFk : Hid (Fit c.kind) := Lib.hid hI.f_kind
  obtain ⟨X0, hX0, b0, hB0⟩ := Cm.boxV w c
  have q0 : X0.cell? ⟨w.heap.size, 0, none⟩ = some (.int .i64 c.kind) := hB0.cell 0
  have HB0 := Lib.hid b0
  have hlt := hB0.lt
  have k1 : (c.kind == 1) = false := beq_eq_false_iff_ne.2 (by omega)
  have k2 : (c.kind == 2) = false := beq_eq_false_iff_ne.2 (by omega)
  have k3 : (c.kind == 3) = false := beq_eq_false_iff_ne.2 (by omega)
  have k4 : (c.kind == 4) = false := beq_eq_false_iff_ne.2 (by omega)
  have k5 : (c.kind == 5) = false := beq_eq_false_iff_ne.2 (by omega)
  have k6 : (c.kind == 6) = false := beq_eq_false_iff_ne.2 (by omega)
  have k7 : (c.kind == 7) = false := beq_eq_false_iff_ne.2 (by omega)
  have k8 : (c.kind == 8) = false := beq_eq_false_iff_ne.2 (by omega)
  clear hI b0 hB0
  unfold Cm.val
  go_enter Try.func23, Try.ntmps23
  go_wp2_with fail
  clear hX0
  refine (rnum [] c.kind HFk.out none 0 0 X0 (By.ls_nil _) (by omega)).mono ?_
  rintro e w1 ⟨⟨a1, N1, c1, rfl, hl1, hN1⟩, b1⟩
  replace q0 := keepD b1 q0
  have HB1 := Lib.hid (bchain HB0.out b1)
  have hlt1 := cell_lt q0
  clear b1 hl1
  go_wp2_with fail
  go_ret2
  unfold RPutE
  rw [HE.out, putB_no (by rw [HE.out]; omega)]
  exact ⟨⟨none, 0, 0, rfl, By.ls_nil _⟩, HB1.out⟩
theorem rput_any (c : Cm.T) (ls : List Ln.T) (w : World) (hI : Cm.In w c ls) : Calls Try.prog 23 #[Cm.val c] w (RPutE (c.sem ls) w) := by
  by_cases hk : 1 ≤ c.kind ∧ c.kind ≤ 8
  · rcases Cm.kinds hk.1 hk.2 with h | h | h | h | h | h | h | h
    · exact rput_1 c ls w hI h
    · exact rput_2 c ls w hI h
    · exact rput_3 c ls w hI h
    · exact rput_4 c ls w hI h
    · exact rput_5 c ls w hI h
    · exact rput_6 c ls w hI h
    · exact rput_7 c ls w hI h
    · exact rput_8 c ls w hI h
  · exact rput_no c ls w hI hk
theorem bare_put (s : S) (hk : 1 ≤ s.kind ∧ s.kind ≤ 8) : s.bare.putE = s.putE ∧ s.bare.putB = s.putB := by
  have h1 : s.bare.kind = s.kind ∧ s.bare.long = s.long ∧ s.bare.bytes = s.bytes := by
    rcases Cm.kinds hk.1 hk.2 with h | h | h | h | h | h | h | h
    all_goals simp [S.bare, S.long, S.bytes, S.fields, h]
  have e : s.bare.putE = s.putE := by
    unfold S.putE
    rw [h1.1, h1.2.1, h1.2.2]
  refine ⟨e, ?_⟩
  unfold S.putB
  rw [e, h1.2.2]
end Go.Proofs.Ytndfhnaafaijcaa
