/- THE WALK OF KindTakes. (By gentakes.py.) -/
import Derived.Test.YtfmfeagfinnmmaaKMustW
import Derived.Test.YtfmfeagfinnmmaaLexQ
set_option linter.unusedVariables false
namespace Go.Proofs.Ytfmfeagfinnmmaa
open Go.RowKit
open Go.Sort (grow)
open Vl (T)
open Mem Tg

/-- what is left of KindTakes' walk where the values are a thing -/
def takesP (t : Th) : Prop := ∀ (ls : List T) (b off n cap : Nat) (w : World), Vl.Ls w (some ⟨b, off, none⟩) n cap ls → Kd.ofE ls = 0 → ls = t.flat → t.fits 0 0 →
    Calls Try.prog 5 #[.slice (some ⟨b, off, none⟩) n cap] w fun e w' => e = .returned (.bool true) ∧ Below w.heap.size w w'

set_option maxRecDepth 100000 in
set_option maxHeartbeats 4000000 in
theorem takes_nothing : takesP .none := by
  intro ls b off n cap w hL h0 hfl hft
  have hlen := hL.len
  have hfit := hL.fits
  have hcap := hL.reach
  have hp : 0 < n := by rw [hlen, hfl]; exact Th.flat_pos _
  have hz : ((n : Int) == 0) = false := beq_eq_false_iff_ne.2 (by omega)
  have hrow := hL.row 0 (by omega)
  have e0 : ls[0]'(by omega) = Th.head .none := by
    have e : ls[0]? = some (Th.head .none) := by rw [hfl, Th.flat_eq]; rfl
    rw [List.getElem?_eq_getElem (by omega)] at e
    exact Option.some.inj e
  rw [e0, Nat.zero_mul, Nat.add_zero] at hrow
  obtain ⟨g0, g1, g2, g3, g4, g5⟩ := hrow
  simp only [Th.head] at g0 g1 g2 g3 g4 g5
  have HL := Lib.hid hL
  have H0 := Lib.hid h0
  have HFl := Lib.hid hfl
  have HFt := Lib.hid hft
  have HG : Hid (∀ X : World, Below w.heap.size w X → X.cell? ⟨b, off, none⟩ = some (.int .i64 0) ∧ X.cell? ⟨b, off + 1, none⟩ = some (.int .i64 0) ∧ X.cell? ⟨b, off + 2, none⟩ = some (.string .empty) ∧ X.cell? ⟨b, off + 3, none⟩ = some (.int .i64 0) ∧ X.cell? ⟨b, off + 4, none⟩ = some (.int .i64 0) ∧ X.cell? ⟨b, off + 5, none⟩ = some (.int .i64 0)) := Lib.hid (fun X hX => ⟨keepC g0 hX, keepC g1 hX, keepC g2 hX, keepC g3 hX, keepC g4 hX, keepC g5 hX⟩)
  clear hL h0 hfl hft hlen g0 g1 g2 g3 g4 g5 e0
  go_enter Try.func5, Try.ntmps5
  go_wp2_with fail
  refine (refKindOf_any ls _ n cap w w (Below.refl _ _) HL.out).mono ?_
  rintro e w1 ⟨rfl, b1⟩
  rw [H0.out]
  have HB1 := Lib.hid b1
  clear b1
  go_wp2_with fail
  refine (thing_any ls _ n cap _ (HL.out.below HB1.out)).mono ?_
  rintro e w2 ⟨he, b2⟩
  rcases he with ⟨_, t, v, rfl, hI, hf1, hf2⟩ | ⟨hno, _⟩
  · have ht : t = .none := Th.flat_inj hf2.1 HFt.out.1 (by rw [← hf1, ← HFl.out])
    subst ht
    have hv1 := hI.oneCell
    have hst := store_fresh w2 v hv1
    have hI3 := hI.stays (below_alloc w2 (.cells #[v] 25))
    have HB3 := Lib.hid (bchain (bchain HB1.out b2) (below_alloc w2 (.cells #[v] 25)))
    have HcP3 : Hid ((w2.alloc (.cells #[v] 25)).cell? ⟨w2.heap.size, 0, none⟩ = some v) := Lib.hid (by simp [go_sem])
    have HI3 := Lib.hid hI3
    have hG := HG.out _ HB3.out
    obtain ⟨m0, m1, m2, m3, m4, m5⟩ := hG
    have cP3 := HcP3.out
    clear hI hI3 b2 hf1 hf2 m1 m2 m3 m4 m5
    go_wp2_with fail
    obtain ⟨X3, hX3⟩ : ∃ X, w2.alloc (.cells #[v] 25) = X := ⟨_, rfl⟩
    rw [hX3] at HB3 HcP3 HI3 cP3 m0
    rw [hX3]
    clear hst hX3 m0
    refine (kind_int .none v X3 _ (Below.refl _ _) HI3.out).mono ?_
    rintro e w4 ⟨rfl, b4⟩
    have HB4 := Lib.hid b4
    have cP4 := keepC HcP3.out b4
    clear b4 cP3
    unfold asInt
    go_wp2_with fail
    refine (kind_text .none v X3 _ HB4.out (HI3.out.stays HB4.out)).mono ?_
    rintro e w5 ⟨rfl, b5⟩
    have HB5 := Lib.hid b5
    have cP5 := keepC HcP3.out b5
    clear b5 cP4
    unfold asText
    go_wp2_with fail
    refine (kind_flag .none v X3 _ HB5.out (HI3.out.stays HB5.out)).mono ?_
    rintro e w6 ⟨rfl, b6⟩
    have HB6 := Lib.hid b6
    have cP6 := keepC HcP3.out b6
    clear b6 cP5
    unfold asFlag
    go_wp2_with fail
    refine (kind_date .none v X3 _ HB6.out (HI3.out.stays HB6.out)).mono ?_
    rintro e w7 ⟨rfl, b7⟩
    have HB8 := Lib.hid (bchain b7 (below_alloc w7 (.cells #[.int .i64 0, .int .i64 0, .int .i64 0] 30)))
    have cP8 := keepC HcP3.out HB8.out
    have HD0 : Hid ((w7.alloc (.cells #[.int .i64 0, .int .i64 0, .int .i64 0] 30)).cell? ⟨w7.heap.size, 0, none⟩ = some (.int .i64 0)) := Lib.hid (by simp [go_sem])
    have HD1 : Hid ((w7.alloc (.cells #[.int .i64 0, .int .i64 0, .int .i64 0] 30)).cell? ⟨w7.heap.size, 1, none⟩ = some (.int .i64 0)) := Lib.hid (by simp [go_sem])
    have HD2 : Hid ((w7.alloc (.cells #[.int .i64 0, .int .i64 0, .int .i64 0] 30)).cell? ⟨w7.heap.size, 2, none⟩ = some (.int .i64 0)) := Lib.hid (by simp [go_sem])
    clear b7 cP6
    unfold asDate
    go_wp2_with fail
    obtain ⟨X8, hX8⟩ : ∃ X, w7.alloc (.cells #[.int .i64 0, .int .i64 0, .int .i64 0] 30) = X := ⟨_, rfl⟩
    rw [hX8] at HB8 HD0 HD1 HD2 cP8
    rw [hX8]
    clear hX8
    refine (kind_list_no .none v X8 _ (Below.refl _ _) (HI3.out.stays HB8.out) (by simp [Th.kind])).mono ?_
    rintro e w9 ⟨rfl, b9⟩
    have HB9 := Lib.hid b9
    have cP9 := keepC (keepC HcP3.out HB8.out) HB9.out
    have d0 := keepC HD0.out HB9.out
    have d1 := keepC HD1.out HB9.out
    have d2 := keepC HD2.out HB9.out
    have HB10 := Lib.hid (bchain (bchain HB3.out HB8.out) HB9.out)
    obtain ⟨m0, m1, m2, m3, m4, m5⟩ := HG.out _ HB10.out
    clear b9 cP8
    go_wp2_with fail
    refine wp_region_quiet_below (by kernel_rfl) (lexB_of (by kernel_rfl) (by kernel_rfl)) ?_
    dsimp only [List.append]
    have m0' := cell_regrown m0
    have m1' := cell_regrown m1
    have m2' := cell_regrown m2
    have m3' := cell_regrown m3
    have m4' := cell_regrown m4
    have m5' := cell_regrown m5
    have d0' := cell_regrown d0
    have d1' := cell_regrown d1
    have d2' := cell_regrown d2
    have HcP9 := Lib.hid cP9
    clear m0 m1 m2 m3 m4 m5 d0 d1 d2 cP9
    repeat (first | go_big_quiet_step (fail) | quiet_step (fail))
    refine wpQuiet_nil ?_
    intro _ hw'
    obtain ⟨⟨dq, osq⟩, hw''⟩ := hw'
    subst hw''
    have HBv := Lib.hid (bchain HB10.out (below_regrown w9 dq osq))
    have cPv := cell_regrown HcP9.out dq osq
    have hIv := Lib.hid (((HI3.out.stays HB8.out).stays HB9.out).stays (below_regrown w9 dq osq))
    clear m0' m1' m2' m3' m4' m5' d0' d1' d2'
    go_wp2_with fail
    have hmu := must_any .none v w _ HBv.out hIv.out
    simp only [Th.kind] at hmu
    refine hmu.mono ?_
    rintro e w10 ⟨rfl, b10⟩
    have HB11 := Lib.hid b10
    clear b10 hmu cPv
    go_wp2_with fail
    refine (kruns_any w _ HB11.out).mono ?_
    rintro e w11 ⟨rfl, b11⟩
    have HB12 := Lib.hid b11
    clear b11
    go_wp2_with fail
    go_ret
    exact ⟨rfl, HB12.out⟩
  · exact absurd H0.out hno
set_option maxRecDepth 100000 in
set_option maxHeartbeats 4000000 in
theorem takes_num (q : Int) : takesP (.num q) := by
  intro ls b off n cap w hL h0 hfl hft
  have hlen := hL.len
  have hfit := hL.fits
  have hcap := hL.reach
  have hp : 0 < n := by rw [hlen, hfl]; exact Th.flat_pos _
  have hz : ((n : Int) == 0) = false := beq_eq_false_iff_ne.2 (by omega)
  have hrow := hL.row 0 (by omega)
  have e0 : ls[0]'(by omega) = Th.head (.num q) := by
    have e : ls[0]? = some (Th.head (.num q)) := by rw [hfl, Th.flat_eq]; rfl
    rw [List.getElem?_eq_getElem (by omega)] at e
    exact Option.some.inj e
  rw [e0, Nat.zero_mul, Nat.add_zero] at hrow
  obtain ⟨g0, g1, g2, g3, g4, g5⟩ := hrow
  simp only [Th.head] at g0 g1 g2 g3 g4 g5
  have ne : (q == q) = true := beq_self_eq_true _
  have nm : (q != q) = false := bne_self_eq_false _
  have HL := Lib.hid hL
  have H0 := Lib.hid h0
  have HFl := Lib.hid hfl
  have HFt := Lib.hid hft
  have HG : Hid (∀ X : World, Below w.heap.size w X → X.cell? ⟨b, off, none⟩ = some (.int .i64 1) ∧ X.cell? ⟨b, off + 1, none⟩ = some (.int .i64 q) ∧ X.cell? ⟨b, off + 2, none⟩ = some (.string .empty) ∧ X.cell? ⟨b, off + 3, none⟩ = some (.int .i64 0) ∧ X.cell? ⟨b, off + 4, none⟩ = some (.int .i64 0) ∧ X.cell? ⟨b, off + 5, none⟩ = some (.int .i64 0)) := Lib.hid (fun X hX => ⟨keepC g0 hX, keepC g1 hX, keepC g2 hX, keepC g3 hX, keepC g4 hX, keepC g5 hX⟩)
  clear hL h0 hfl hft hlen g0 g1 g2 g3 g4 g5 e0
  go_enter Try.func5, Try.ntmps5
  go_wp2_with fail
  refine (refKindOf_any ls _ n cap w w (Below.refl _ _) HL.out).mono ?_
  rintro e w1 ⟨rfl, b1⟩
  rw [H0.out]
  have HB1 := Lib.hid b1
  clear b1
  go_wp2_with fail
  refine (thing_any ls _ n cap _ (HL.out.below HB1.out)).mono ?_
  rintro e w2 ⟨he, b2⟩
  rcases he with ⟨_, t, v, rfl, hI, hf1, hf2⟩ | ⟨hno, _⟩
  · have ht : t = (.num q) := Th.flat_inj hf2.1 HFt.out.1 (by rw [← hf1, ← HFl.out])
    subst ht
    have hv1 := hI.oneCell
    have hst := store_fresh w2 v hv1
    have hI3 := hI.stays (below_alloc w2 (.cells #[v] 25))
    have HB3 := Lib.hid (bchain (bchain HB1.out b2) (below_alloc w2 (.cells #[v] 25)))
    have HcP3 : Hid ((w2.alloc (.cells #[v] 25)).cell? ⟨w2.heap.size, 0, none⟩ = some v) := Lib.hid (by simp [go_sem])
    have HI3 := Lib.hid hI3
    have hG := HG.out _ HB3.out
    obtain ⟨m0, m1, m2, m3, m4, m5⟩ := hG
    have cP3 := HcP3.out
    clear hI hI3 b2 hf1 hf2 m1 m2 m3 m4 m5
    go_wp2_with fail
    obtain ⟨X3, hX3⟩ : ∃ X, w2.alloc (.cells #[v] 25) = X := ⟨_, rfl⟩
    rw [hX3] at HB3 HcP3 HI3 cP3 m0
    rw [hX3]
    clear hst hX3 m0
    refine (kind_int (.num q) v X3 _ (Below.refl _ _) HI3.out).mono ?_
    rintro e w4 ⟨rfl, b4⟩
    have HB4 := Lib.hid b4
    have cP4 := keepC HcP3.out b4
    clear b4 cP3
    unfold asInt
    go_wp2_with fail
    refine (kind_text (.num q) v X3 _ HB4.out (HI3.out.stays HB4.out)).mono ?_
    rintro e w5 ⟨rfl, b5⟩
    have HB5 := Lib.hid b5
    have cP5 := keepC HcP3.out b5
    clear b5 cP4
    unfold asText
    go_wp2_with fail
    refine (kind_flag (.num q) v X3 _ HB5.out (HI3.out.stays HB5.out)).mono ?_
    rintro e w6 ⟨rfl, b6⟩
    have HB6 := Lib.hid b6
    have cP6 := keepC HcP3.out b6
    clear b6 cP5
    unfold asFlag
    go_wp2_with fail
    refine (kind_date (.num q) v X3 _ HB6.out (HI3.out.stays HB6.out)).mono ?_
    rintro e w7 ⟨rfl, b7⟩
    have HB8 := Lib.hid (bchain b7 (below_alloc w7 (.cells #[.int .i64 0, .int .i64 0, .int .i64 0] 30)))
    have cP8 := keepC HcP3.out HB8.out
    have HD0 : Hid ((w7.alloc (.cells #[.int .i64 0, .int .i64 0, .int .i64 0] 30)).cell? ⟨w7.heap.size, 0, none⟩ = some (.int .i64 0)) := Lib.hid (by simp [go_sem])
    have HD1 : Hid ((w7.alloc (.cells #[.int .i64 0, .int .i64 0, .int .i64 0] 30)).cell? ⟨w7.heap.size, 1, none⟩ = some (.int .i64 0)) := Lib.hid (by simp [go_sem])
    have HD2 : Hid ((w7.alloc (.cells #[.int .i64 0, .int .i64 0, .int .i64 0] 30)).cell? ⟨w7.heap.size, 2, none⟩ = some (.int .i64 0)) := Lib.hid (by simp [go_sem])
    clear b7 cP6
    unfold asDate
    go_wp2_with fail
    obtain ⟨X8, hX8⟩ : ∃ X, w7.alloc (.cells #[.int .i64 0, .int .i64 0, .int .i64 0] 30) = X := ⟨_, rfl⟩
    rw [hX8] at HB8 HD0 HD1 HD2 cP8
    rw [hX8]
    clear hX8
    refine (kind_list_no (.num q) v X8 _ (Below.refl _ _) (HI3.out.stays HB8.out) (by simp [Th.kind])).mono ?_
    rintro e w9 ⟨rfl, b9⟩
    have HB9 := Lib.hid b9
    have cP9 := keepC (keepC HcP3.out HB8.out) HB9.out
    have d0 := keepC HD0.out HB9.out
    have d1 := keepC HD1.out HB9.out
    have d2 := keepC HD2.out HB9.out
    have HB10 := Lib.hid (bchain (bchain HB3.out HB8.out) HB9.out)
    obtain ⟨m0, m1, m2, m3, m4, m5⟩ := HG.out _ HB10.out
    clear b9 cP8
    go_wp2_with fail
    refine wp_region_quiet_below (by kernel_rfl) (lexB_of (by kernel_rfl) (by kernel_rfl)) ?_
    dsimp only [List.append]
    have m0' := cell_regrown m0
    have m1' := cell_regrown m1
    have m2' := cell_regrown m2
    have m3' := cell_regrown m3
    have m4' := cell_regrown m4
    have m5' := cell_regrown m5
    have d0' := cell_regrown d0
    have d1' := cell_regrown d1
    have d2' := cell_regrown d2
    have HcP9 := Lib.hid cP9
    clear m0 m1 m2 m3 m4 m5 d0 d1 d2 cP9
    repeat (first | go_big_quiet_step (fail) | quiet_step (fail))
    refine wpQuiet_nil ?_
    intro _ hw'
    obtain ⟨⟨dq, osq⟩, hw''⟩ := hw'
    subst hw''
    have HBv := Lib.hid (bchain HB10.out (below_regrown w9 dq osq))
    have cPv := cell_regrown HcP9.out dq osq
    have hIv := Lib.hid (((HI3.out.stays HB8.out).stays HB9.out).stays (below_regrown w9 dq osq))
    clear m0' m1' m2' m3' m4' m5' d0' d1' d2'
    go_wp2_with fail
    have hmu := must_any (.num q) v w _ HBv.out hIv.out
    simp only [Th.kind] at hmu
    refine hmu.mono ?_
    rintro e w10 ⟨rfl, b10⟩
    have HB11 := Lib.hid b10
    clear b10 hmu cPv
    go_wp2_with fail
    refine (kruns_any w _ HB11.out).mono ?_
    rintro e w11 ⟨rfl, b11⟩
    have HB12 := Lib.hid b11
    clear b11
    go_wp2_with fail
    go_ret
    exact ⟨rfl, HB12.out⟩
  · exact absurd H0.out hno
set_option maxRecDepth 100000 in
set_option maxHeartbeats 4000000 in
theorem takes_text (s : ByteArray) : takesP (.text s) := by
  intro ls b off n cap w hL h0 hfl hft
  have hlen := hL.len
  have hfit := hL.fits
  have hcap := hL.reach
  have hp : 0 < n := by rw [hlen, hfl]; exact Th.flat_pos _
  have hz : ((n : Int) == 0) = false := beq_eq_false_iff_ne.2 (by omega)
  have hrow := hL.row 0 (by omega)
  have e0 : ls[0]'(by omega) = Th.head (.text s) := by
    have e : ls[0]? = some (Th.head (.text s)) := by rw [hfl, Th.flat_eq]; rfl
    rw [List.getElem?_eq_getElem (by omega)] at e
    exact Option.some.inj e
  rw [e0, Nat.zero_mul, Nat.add_zero] at hrow
  obtain ⟨g0, g1, g2, g3, g4, g5⟩ := hrow
  simp only [Th.head] at g0 g1 g2 g3 g4 g5
  have ne : (s.toList == s.toList) = true := beq_self_eq_true _
  have nm : (s.toList != s.toList) = false := bne_self_eq_false _
  have HL := Lib.hid hL
  have H0 := Lib.hid h0
  have HFl := Lib.hid hfl
  have HFt := Lib.hid hft
  have HG : Hid (∀ X : World, Below w.heap.size w X → X.cell? ⟨b, off, none⟩ = some (.int .i64 2) ∧ X.cell? ⟨b, off + 1, none⟩ = some (.int .i64 0) ∧ X.cell? ⟨b, off + 2, none⟩ = some (.string s) ∧ X.cell? ⟨b, off + 3, none⟩ = some (.int .i64 0) ∧ X.cell? ⟨b, off + 4, none⟩ = some (.int .i64 0) ∧ X.cell? ⟨b, off + 5, none⟩ = some (.int .i64 0)) := Lib.hid (fun X hX => ⟨keepC g0 hX, keepC g1 hX, keepC g2 hX, keepC g3 hX, keepC g4 hX, keepC g5 hX⟩)
  clear hL h0 hfl hft hlen g0 g1 g2 g3 g4 g5 e0
  go_enter Try.func5, Try.ntmps5
  go_wp2_with fail
  refine (refKindOf_any ls _ n cap w w (Below.refl _ _) HL.out).mono ?_
  rintro e w1 ⟨rfl, b1⟩
  rw [H0.out]
  have HB1 := Lib.hid b1
  clear b1
  go_wp2_with fail
  refine (thing_any ls _ n cap _ (HL.out.below HB1.out)).mono ?_
  rintro e w2 ⟨he, b2⟩
  rcases he with ⟨_, t, v, rfl, hI, hf1, hf2⟩ | ⟨hno, _⟩
  · have ht : t = (.text s) := Th.flat_inj hf2.1 HFt.out.1 (by rw [← hf1, ← HFl.out])
    subst ht
    have hv1 := hI.oneCell
    have hst := store_fresh w2 v hv1
    have hI3 := hI.stays (below_alloc w2 (.cells #[v] 25))
    have HB3 := Lib.hid (bchain (bchain HB1.out b2) (below_alloc w2 (.cells #[v] 25)))
    have HcP3 : Hid ((w2.alloc (.cells #[v] 25)).cell? ⟨w2.heap.size, 0, none⟩ = some v) := Lib.hid (by simp [go_sem])
    have HI3 := Lib.hid hI3
    have hG := HG.out _ HB3.out
    obtain ⟨m0, m1, m2, m3, m4, m5⟩ := hG
    have cP3 := HcP3.out
    clear hI hI3 b2 hf1 hf2 m1 m2 m3 m4 m5
    go_wp2_with fail
    obtain ⟨X3, hX3⟩ : ∃ X, w2.alloc (.cells #[v] 25) = X := ⟨_, rfl⟩
    rw [hX3] at HB3 HcP3 HI3 cP3 m0
    rw [hX3]
    clear hst hX3 m0
    refine (kind_int (.text s) v X3 _ (Below.refl _ _) HI3.out).mono ?_
    rintro e w4 ⟨rfl, b4⟩
    have HB4 := Lib.hid b4
    have cP4 := keepC HcP3.out b4
    clear b4 cP3
    unfold asInt
    go_wp2_with fail
    refine (kind_text (.text s) v X3 _ HB4.out (HI3.out.stays HB4.out)).mono ?_
    rintro e w5 ⟨rfl, b5⟩
    have HB5 := Lib.hid b5
    have cP5 := keepC HcP3.out b5
    clear b5 cP4
    unfold asText
    go_wp2_with fail
    refine (kind_flag (.text s) v X3 _ HB5.out (HI3.out.stays HB5.out)).mono ?_
    rintro e w6 ⟨rfl, b6⟩
    have HB6 := Lib.hid b6
    have cP6 := keepC HcP3.out b6
    clear b6 cP5
    unfold asFlag
    go_wp2_with fail
    refine (kind_date (.text s) v X3 _ HB6.out (HI3.out.stays HB6.out)).mono ?_
    rintro e w7 ⟨rfl, b7⟩
    have HB8 := Lib.hid (bchain b7 (below_alloc w7 (.cells #[.int .i64 0, .int .i64 0, .int .i64 0] 30)))
    have cP8 := keepC HcP3.out HB8.out
    have HD0 : Hid ((w7.alloc (.cells #[.int .i64 0, .int .i64 0, .int .i64 0] 30)).cell? ⟨w7.heap.size, 0, none⟩ = some (.int .i64 0)) := Lib.hid (by simp [go_sem])
    have HD1 : Hid ((w7.alloc (.cells #[.int .i64 0, .int .i64 0, .int .i64 0] 30)).cell? ⟨w7.heap.size, 1, none⟩ = some (.int .i64 0)) := Lib.hid (by simp [go_sem])
    have HD2 : Hid ((w7.alloc (.cells #[.int .i64 0, .int .i64 0, .int .i64 0] 30)).cell? ⟨w7.heap.size, 2, none⟩ = some (.int .i64 0)) := Lib.hid (by simp [go_sem])
    clear b7 cP6
    unfold asDate
    go_wp2_with fail
    obtain ⟨X8, hX8⟩ : ∃ X, w7.alloc (.cells #[.int .i64 0, .int .i64 0, .int .i64 0] 30) = X := ⟨_, rfl⟩
    rw [hX8] at HB8 HD0 HD1 HD2 cP8
    rw [hX8]
    clear hX8
    refine (kind_list_no (.text s) v X8 _ (Below.refl _ _) (HI3.out.stays HB8.out) (by simp [Th.kind])).mono ?_
    rintro e w9 ⟨rfl, b9⟩
    have HB9 := Lib.hid b9
    have cP9 := keepC (keepC HcP3.out HB8.out) HB9.out
    have d0 := keepC HD0.out HB9.out
    have d1 := keepC HD1.out HB9.out
    have d2 := keepC HD2.out HB9.out
    have HB10 := Lib.hid (bchain (bchain HB3.out HB8.out) HB9.out)
    obtain ⟨m0, m1, m2, m3, m4, m5⟩ := HG.out _ HB10.out
    clear b9 cP8
    go_wp2_with fail
    refine wp_region_quiet_below (by kernel_rfl) (lexB_of (by kernel_rfl) (by kernel_rfl)) ?_
    dsimp only [List.append]
    have m0' := cell_regrown m0
    have m1' := cell_regrown m1
    have m2' := cell_regrown m2
    have m3' := cell_regrown m3
    have m4' := cell_regrown m4
    have m5' := cell_regrown m5
    have d0' := cell_regrown d0
    have d1' := cell_regrown d1
    have d2' := cell_regrown d2
    have HcP9 := Lib.hid cP9
    clear m0 m1 m2 m3 m4 m5 d0 d1 d2 cP9
    repeat (first | go_big_quiet_step (fail) | quiet_step (fail))
    refine wpQuiet_nil ?_
    intro _ hw'
    obtain ⟨⟨dq, osq⟩, hw''⟩ := hw'
    subst hw''
    have HBv := Lib.hid (bchain HB10.out (below_regrown w9 dq osq))
    have cPv := cell_regrown HcP9.out dq osq
    have hIv := Lib.hid (((HI3.out.stays HB8.out).stays HB9.out).stays (below_regrown w9 dq osq))
    clear m0' m1' m2' m3' m4' m5' d0' d1' d2'
    go_wp2_with fail
    have hmu := must_any (.text s) v w _ HBv.out hIv.out
    simp only [Th.kind] at hmu
    refine hmu.mono ?_
    rintro e w10 ⟨rfl, b10⟩
    have HB11 := Lib.hid b10
    clear b10 hmu cPv
    go_wp2_with fail
    refine (kruns_any w _ HB11.out).mono ?_
    rintro e w11 ⟨rfl, b11⟩
    have HB12 := Lib.hid b11
    clear b11
    go_wp2_with fail
    go_ret
    exact ⟨rfl, HB12.out⟩
  · exact absurd H0.out hno
set_option maxRecDepth 100000 in
set_option maxHeartbeats 4000000 in
theorem takes_flag_true : takesP (.flag true) := by
  intro ls b off n cap w hL h0 hfl hft
  have hlen := hL.len
  have hfit := hL.fits
  have hcap := hL.reach
  have hp : 0 < n := by rw [hlen, hfl]; exact Th.flat_pos _
  have hz : ((n : Int) == 0) = false := beq_eq_false_iff_ne.2 (by omega)
  have hrow := hL.row 0 (by omega)
  have e0 : ls[0]'(by omega) = Th.head (.flag true) := by
    have e : ls[0]? = some (Th.head (.flag true)) := by rw [hfl, Th.flat_eq]; rfl
    rw [List.getElem?_eq_getElem (by omega)] at e
    exact Option.some.inj e
  rw [e0, Nat.zero_mul, Nat.add_zero] at hrow
  obtain ⟨g0, g1, g2, g3, g4, g5⟩ := hrow
  simp only [Th.head, if_true] at g0 g1 g2 g3 g4 g5
  have HL := Lib.hid hL
  have H0 := Lib.hid h0
  have HFl := Lib.hid hfl
  have HFt := Lib.hid hft
  have HG : Hid (∀ X : World, Below w.heap.size w X → X.cell? ⟨b, off, none⟩ = some (.int .i64 3) ∧ X.cell? ⟨b, off + 1, none⟩ = some (.int .i64 1) ∧ X.cell? ⟨b, off + 2, none⟩ = some (.string .empty) ∧ X.cell? ⟨b, off + 3, none⟩ = some (.int .i64 0) ∧ X.cell? ⟨b, off + 4, none⟩ = some (.int .i64 0) ∧ X.cell? ⟨b, off + 5, none⟩ = some (.int .i64 0)) := Lib.hid (fun X hX => ⟨keepC g0 hX, keepC g1 hX, keepC g2 hX, keepC g3 hX, keepC g4 hX, keepC g5 hX⟩)
  clear hL h0 hfl hft hlen g0 g1 g2 g3 g4 g5 e0
  go_enter Try.func5, Try.ntmps5
  go_wp2_with fail
  refine (refKindOf_any ls _ n cap w w (Below.refl _ _) HL.out).mono ?_
  rintro e w1 ⟨rfl, b1⟩
  rw [H0.out]
  have HB1 := Lib.hid b1
  clear b1
  go_wp2_with fail
  refine (thing_any ls _ n cap _ (HL.out.below HB1.out)).mono ?_
  rintro e w2 ⟨he, b2⟩
  rcases he with ⟨_, t, v, rfl, hI, hf1, hf2⟩ | ⟨hno, _⟩
  · have ht : t = (.flag true) := Th.flat_inj hf2.1 HFt.out.1 (by rw [← hf1, ← HFl.out])
    subst ht
    have hv1 := hI.oneCell
    have hst := store_fresh w2 v hv1
    have hI3 := hI.stays (below_alloc w2 (.cells #[v] 25))
    have HB3 := Lib.hid (bchain (bchain HB1.out b2) (below_alloc w2 (.cells #[v] 25)))
    have HcP3 : Hid ((w2.alloc (.cells #[v] 25)).cell? ⟨w2.heap.size, 0, none⟩ = some v) := Lib.hid (by simp [go_sem])
    have HI3 := Lib.hid hI3
    have hG := HG.out _ HB3.out
    obtain ⟨m0, m1, m2, m3, m4, m5⟩ := hG
    have cP3 := HcP3.out
    clear hI hI3 b2 hf1 hf2 m1 m2 m3 m4 m5
    go_wp2_with fail
    obtain ⟨X3, hX3⟩ : ∃ X, w2.alloc (.cells #[v] 25) = X := ⟨_, rfl⟩
    rw [hX3] at HB3 HcP3 HI3 cP3 m0
    rw [hX3]
    clear hst hX3 m0
    refine (kind_int (.flag true) v X3 _ (Below.refl _ _) HI3.out).mono ?_
    rintro e w4 ⟨rfl, b4⟩
    have HB4 := Lib.hid b4
    have cP4 := keepC HcP3.out b4
    clear b4 cP3
    unfold asInt
    go_wp2_with fail
    refine (kind_text (.flag true) v X3 _ HB4.out (HI3.out.stays HB4.out)).mono ?_
    rintro e w5 ⟨rfl, b5⟩
    have HB5 := Lib.hid b5
    have cP5 := keepC HcP3.out b5
    clear b5 cP4
    unfold asText
    go_wp2_with fail
    refine (kind_flag (.flag true) v X3 _ HB5.out (HI3.out.stays HB5.out)).mono ?_
    rintro e w6 ⟨rfl, b6⟩
    have HB6 := Lib.hid b6
    have cP6 := keepC HcP3.out b6
    clear b6 cP5
    unfold asFlag
    go_wp2_with fail
    refine (kind_date (.flag true) v X3 _ HB6.out (HI3.out.stays HB6.out)).mono ?_
    rintro e w7 ⟨rfl, b7⟩
    have HB8 := Lib.hid (bchain b7 (below_alloc w7 (.cells #[.int .i64 0, .int .i64 0, .int .i64 0] 30)))
    have cP8 := keepC HcP3.out HB8.out
    have HD0 : Hid ((w7.alloc (.cells #[.int .i64 0, .int .i64 0, .int .i64 0] 30)).cell? ⟨w7.heap.size, 0, none⟩ = some (.int .i64 0)) := Lib.hid (by simp [go_sem])
    have HD1 : Hid ((w7.alloc (.cells #[.int .i64 0, .int .i64 0, .int .i64 0] 30)).cell? ⟨w7.heap.size, 1, none⟩ = some (.int .i64 0)) := Lib.hid (by simp [go_sem])
    have HD2 : Hid ((w7.alloc (.cells #[.int .i64 0, .int .i64 0, .int .i64 0] 30)).cell? ⟨w7.heap.size, 2, none⟩ = some (.int .i64 0)) := Lib.hid (by simp [go_sem])
    clear b7 cP6
    unfold asDate
    go_wp2_with fail
    obtain ⟨X8, hX8⟩ : ∃ X, w7.alloc (.cells #[.int .i64 0, .int .i64 0, .int .i64 0] 30) = X := ⟨_, rfl⟩
    rw [hX8] at HB8 HD0 HD1 HD2 cP8
    rw [hX8]
    clear hX8
    refine (kind_list_no (.flag true) v X8 _ (Below.refl _ _) (HI3.out.stays HB8.out) (by simp [Th.kind])).mono ?_
    rintro e w9 ⟨rfl, b9⟩
    have HB9 := Lib.hid b9
    have cP9 := keepC (keepC HcP3.out HB8.out) HB9.out
    have d0 := keepC HD0.out HB9.out
    have d1 := keepC HD1.out HB9.out
    have d2 := keepC HD2.out HB9.out
    have HB10 := Lib.hid (bchain (bchain HB3.out HB8.out) HB9.out)
    obtain ⟨m0, m1, m2, m3, m4, m5⟩ := HG.out _ HB10.out
    clear b9 cP8
    go_wp2_with fail
    refine wp_region_quiet_below (by kernel_rfl) (lexB_of (by kernel_rfl) (by kernel_rfl)) ?_
    dsimp only [List.append]
    have m0' := cell_regrown m0
    have m1' := cell_regrown m1
    have m2' := cell_regrown m2
    have m3' := cell_regrown m3
    have m4' := cell_regrown m4
    have m5' := cell_regrown m5
    have d0' := cell_regrown d0
    have d1' := cell_regrown d1
    have d2' := cell_regrown d2
    have HcP9 := Lib.hid cP9
    clear m0 m1 m2 m3 m4 m5 d0 d1 d2 cP9
    repeat (first | go_big_quiet_step (fail) | quiet_step (fail))
    refine wpQuiet_nil ?_
    intro _ hw'
    obtain ⟨⟨dq, osq⟩, hw''⟩ := hw'
    subst hw''
    have HBv := Lib.hid (bchain HB10.out (below_regrown w9 dq osq))
    have cPv := cell_regrown HcP9.out dq osq
    have hIv := Lib.hid (((HI3.out.stays HB8.out).stays HB9.out).stays (below_regrown w9 dq osq))
    clear m0' m1' m2' m3' m4' m5' d0' d1' d2'
    go_wp2_with fail
    have hmu := must_any (.flag true) v w _ HBv.out hIv.out
    simp only [Th.kind] at hmu
    refine hmu.mono ?_
    rintro e w10 ⟨rfl, b10⟩
    have HB11 := Lib.hid b10
    clear b10 hmu cPv
    go_wp2_with fail
    refine (kruns_any w _ HB11.out).mono ?_
    rintro e w11 ⟨rfl, b11⟩
    have HB12 := Lib.hid b11
    clear b11
    go_wp2_with fail
    go_ret
    exact ⟨rfl, HB12.out⟩
  · exact absurd H0.out hno
set_option maxRecDepth 100000 in
set_option maxHeartbeats 4000000 in
theorem takes_flag_false : takesP (.flag false) := by
  intro ls b off n cap w hL h0 hfl hft
  have hlen := hL.len
  have hfit := hL.fits
  have hcap := hL.reach
  have hp : 0 < n := by rw [hlen, hfl]; exact Th.flat_pos _
  have hz : ((n : Int) == 0) = false := beq_eq_false_iff_ne.2 (by omega)
  have hrow := hL.row 0 (by omega)
  have e0 : ls[0]'(by omega) = Th.head (.flag false) := by
    have e : ls[0]? = some (Th.head (.flag false)) := by rw [hfl, Th.flat_eq]; rfl
    rw [List.getElem?_eq_getElem (by omega)] at e
    exact Option.some.inj e
  rw [e0, Nat.zero_mul, Nat.add_zero] at hrow
  obtain ⟨g0, g1, g2, g3, g4, g5⟩ := hrow
  simp only [Th.head, Bool.false_eq_true, if_false] at g0 g1 g2 g3 g4 g5
  have HL := Lib.hid hL
  have H0 := Lib.hid h0
  have HFl := Lib.hid hfl
  have HFt := Lib.hid hft
  have HG : Hid (∀ X : World, Below w.heap.size w X → X.cell? ⟨b, off, none⟩ = some (.int .i64 3) ∧ X.cell? ⟨b, off + 1, none⟩ = some (.int .i64 0) ∧ X.cell? ⟨b, off + 2, none⟩ = some (.string .empty) ∧ X.cell? ⟨b, off + 3, none⟩ = some (.int .i64 0) ∧ X.cell? ⟨b, off + 4, none⟩ = some (.int .i64 0) ∧ X.cell? ⟨b, off + 5, none⟩ = some (.int .i64 0)) := Lib.hid (fun X hX => ⟨keepC g0 hX, keepC g1 hX, keepC g2 hX, keepC g3 hX, keepC g4 hX, keepC g5 hX⟩)
  clear hL h0 hfl hft hlen g0 g1 g2 g3 g4 g5 e0
  go_enter Try.func5, Try.ntmps5
  go_wp2_with fail
  refine (refKindOf_any ls _ n cap w w (Below.refl _ _) HL.out).mono ?_
  rintro e w1 ⟨rfl, b1⟩
  rw [H0.out]
  have HB1 := Lib.hid b1
  clear b1
  go_wp2_with fail
  refine (thing_any ls _ n cap _ (HL.out.below HB1.out)).mono ?_
  rintro e w2 ⟨he, b2⟩
  rcases he with ⟨_, t, v, rfl, hI, hf1, hf2⟩ | ⟨hno, _⟩
  · have ht : t = (.flag false) := Th.flat_inj hf2.1 HFt.out.1 (by rw [← hf1, ← HFl.out])
    subst ht
    have hv1 := hI.oneCell
    have hst := store_fresh w2 v hv1
    have hI3 := hI.stays (below_alloc w2 (.cells #[v] 25))
    have HB3 := Lib.hid (bchain (bchain HB1.out b2) (below_alloc w2 (.cells #[v] 25)))
    have HcP3 : Hid ((w2.alloc (.cells #[v] 25)).cell? ⟨w2.heap.size, 0, none⟩ = some v) := Lib.hid (by simp [go_sem])
    have HI3 := Lib.hid hI3
    have hG := HG.out _ HB3.out
    obtain ⟨m0, m1, m2, m3, m4, m5⟩ := hG
    have cP3 := HcP3.out
    clear hI hI3 b2 hf1 hf2 m1 m2 m3 m4 m5
    go_wp2_with fail
    obtain ⟨X3, hX3⟩ : ∃ X, w2.alloc (.cells #[v] 25) = X := ⟨_, rfl⟩
    rw [hX3] at HB3 HcP3 HI3 cP3 m0
    rw [hX3]
    clear hst hX3 m0
    refine (kind_int (.flag false) v X3 _ (Below.refl _ _) HI3.out).mono ?_
    rintro e w4 ⟨rfl, b4⟩
    have HB4 := Lib.hid b4
    have cP4 := keepC HcP3.out b4
    clear b4 cP3
    unfold asInt
    go_wp2_with fail
    refine (kind_text (.flag false) v X3 _ HB4.out (HI3.out.stays HB4.out)).mono ?_
    rintro e w5 ⟨rfl, b5⟩
    have HB5 := Lib.hid b5
    have cP5 := keepC HcP3.out b5
    clear b5 cP4
    unfold asText
    go_wp2_with fail
    refine (kind_flag (.flag false) v X3 _ HB5.out (HI3.out.stays HB5.out)).mono ?_
    rintro e w6 ⟨rfl, b6⟩
    have HB6 := Lib.hid b6
    have cP6 := keepC HcP3.out b6
    clear b6 cP5
    unfold asFlag
    go_wp2_with fail
    refine (kind_date (.flag false) v X3 _ HB6.out (HI3.out.stays HB6.out)).mono ?_
    rintro e w7 ⟨rfl, b7⟩
    have HB8 := Lib.hid (bchain b7 (below_alloc w7 (.cells #[.int .i64 0, .int .i64 0, .int .i64 0] 30)))
    have cP8 := keepC HcP3.out HB8.out
    have HD0 : Hid ((w7.alloc (.cells #[.int .i64 0, .int .i64 0, .int .i64 0] 30)).cell? ⟨w7.heap.size, 0, none⟩ = some (.int .i64 0)) := Lib.hid (by simp [go_sem])
    have HD1 : Hid ((w7.alloc (.cells #[.int .i64 0, .int .i64 0, .int .i64 0] 30)).cell? ⟨w7.heap.size, 1, none⟩ = some (.int .i64 0)) := Lib.hid (by simp [go_sem])
    have HD2 : Hid ((w7.alloc (.cells #[.int .i64 0, .int .i64 0, .int .i64 0] 30)).cell? ⟨w7.heap.size, 2, none⟩ = some (.int .i64 0)) := Lib.hid (by simp [go_sem])
    clear b7 cP6
    unfold asDate
    go_wp2_with fail
    obtain ⟨X8, hX8⟩ : ∃ X, w7.alloc (.cells #[.int .i64 0, .int .i64 0, .int .i64 0] 30) = X := ⟨_, rfl⟩
    rw [hX8] at HB8 HD0 HD1 HD2 cP8
    rw [hX8]
    clear hX8
    refine (kind_list_no (.flag false) v X8 _ (Below.refl _ _) (HI3.out.stays HB8.out) (by simp [Th.kind])).mono ?_
    rintro e w9 ⟨rfl, b9⟩
    have HB9 := Lib.hid b9
    have cP9 := keepC (keepC HcP3.out HB8.out) HB9.out
    have d0 := keepC HD0.out HB9.out
    have d1 := keepC HD1.out HB9.out
    have d2 := keepC HD2.out HB9.out
    have HB10 := Lib.hid (bchain (bchain HB3.out HB8.out) HB9.out)
    obtain ⟨m0, m1, m2, m3, m4, m5⟩ := HG.out _ HB10.out
    clear b9 cP8
    go_wp2_with fail
    refine wp_region_quiet_below (by kernel_rfl) (lexB_of (by kernel_rfl) (by kernel_rfl)) ?_
    dsimp only [List.append]
    have m0' := cell_regrown m0
    have m1' := cell_regrown m1
    have m2' := cell_regrown m2
    have m3' := cell_regrown m3
    have m4' := cell_regrown m4
    have m5' := cell_regrown m5
    have d0' := cell_regrown d0
    have d1' := cell_regrown d1
    have d2' := cell_regrown d2
    have HcP9 := Lib.hid cP9
    clear m0 m1 m2 m3 m4 m5 d0 d1 d2 cP9
    repeat (first | go_big_quiet_step (fail) | quiet_step (fail))
    refine wpQuiet_nil ?_
    intro _ hw'
    obtain ⟨⟨dq, osq⟩, hw''⟩ := hw'
    subst hw''
    have HBv := Lib.hid (bchain HB10.out (below_regrown w9 dq osq))
    have cPv := cell_regrown HcP9.out dq osq
    have hIv := Lib.hid (((HI3.out.stays HB8.out).stays HB9.out).stays (below_regrown w9 dq osq))
    clear m0' m1' m2' m3' m4' m5' d0' d1' d2'
    go_wp2_with fail
    have hmu := must_any (.flag false) v w _ HBv.out hIv.out
    simp only [Th.kind] at hmu
    refine hmu.mono ?_
    rintro e w10 ⟨rfl, b10⟩
    have HB11 := Lib.hid b10
    clear b10 hmu cPv
    go_wp2_with fail
    refine (kruns_any w _ HB11.out).mono ?_
    rintro e w11 ⟨rfl, b11⟩
    have HB12 := Lib.hid b11
    clear b11
    go_wp2_with fail
    go_ret
    exact ⟨rfl, HB12.out⟩
  · exact absurd H0.out hno
set_option maxRecDepth 100000 in
set_option maxHeartbeats 4000000 in
theorem takes_day (y m d : Int) : takesP (.day y m d) := by
  intro ls b off n cap w hL h0 hfl hft
  have hlen := hL.len
  have hfit := hL.fits
  have hcap := hL.reach
  have hp : 0 < n := by rw [hlen, hfl]; exact Th.flat_pos _
  have hz : ((n : Int) == 0) = false := beq_eq_false_iff_ne.2 (by omega)
  have hrow := hL.row 0 (by omega)
  have e0 : ls[0]'(by omega) = Th.head (.day y m d) := by
    have e : ls[0]? = some (Th.head (.day y m d)) := by rw [hfl, Th.flat_eq]; rfl
    rw [List.getElem?_eq_getElem (by omega)] at e
    exact Option.some.inj e
  rw [e0, Nat.zero_mul, Nat.add_zero] at hrow
  obtain ⟨g0, g1, g2, g3, g4, g5⟩ := hrow
  simp only [Th.head] at g0 g1 g2 g3 g4 g5
  have ne0 : (y == y) = true := beq_self_eq_true _
  have ne1 : (m == m) = true := beq_self_eq_true _
  have ne2 : (d == d) = true := beq_self_eq_true _
  have HL := Lib.hid hL
  have H0 := Lib.hid h0
  have HFl := Lib.hid hfl
  have HFt := Lib.hid hft
  have HG : Hid (∀ X : World, Below w.heap.size w X → X.cell? ⟨b, off, none⟩ = some (.int .i64 4) ∧ X.cell? ⟨b, off + 1, none⟩ = some (.int .i64 0) ∧ X.cell? ⟨b, off + 2, none⟩ = some (.string .empty) ∧ X.cell? ⟨b, off + 3, none⟩ = some (.int .i64 y) ∧ X.cell? ⟨b, off + 4, none⟩ = some (.int .i64 m) ∧ X.cell? ⟨b, off + 5, none⟩ = some (.int .i64 d)) := Lib.hid (fun X hX => ⟨keepC g0 hX, keepC g1 hX, keepC g2 hX, keepC g3 hX, keepC g4 hX, keepC g5 hX⟩)
  clear hL h0 hfl hft hlen g0 g1 g2 g3 g4 g5 e0
  go_enter Try.func5, Try.ntmps5
  go_wp2_with fail
  refine (refKindOf_any ls _ n cap w w (Below.refl _ _) HL.out).mono ?_
  rintro e w1 ⟨rfl, b1⟩
  rw [H0.out]
  have HB1 := Lib.hid b1
  clear b1
  go_wp2_with fail
  refine (thing_any ls _ n cap _ (HL.out.below HB1.out)).mono ?_
  rintro e w2 ⟨he, b2⟩
  rcases he with ⟨_, t, v, rfl, hI, hf1, hf2⟩ | ⟨hno, _⟩
  · have ht : t = (.day y m d) := Th.flat_inj hf2.1 HFt.out.1 (by rw [← hf1, ← HFl.out])
    subst ht
    have hv1 := hI.oneCell
    have hst := store_fresh w2 v hv1
    have hI3 := hI.stays (below_alloc w2 (.cells #[v] 25))
    have HB3 := Lib.hid (bchain (bchain HB1.out b2) (below_alloc w2 (.cells #[v] 25)))
    have HcP3 : Hid ((w2.alloc (.cells #[v] 25)).cell? ⟨w2.heap.size, 0, none⟩ = some v) := Lib.hid (by simp [go_sem])
    have HI3 := Lib.hid hI3
    have hG := HG.out _ HB3.out
    obtain ⟨m0, m1, m2, m3, m4, m5⟩ := hG
    have cP3 := HcP3.out
    clear hI hI3 b2 hf1 hf2 m1 m2 m3 m4 m5
    go_wp2_with fail
    obtain ⟨X3, hX3⟩ : ∃ X, w2.alloc (.cells #[v] 25) = X := ⟨_, rfl⟩
    rw [hX3] at HB3 HcP3 HI3 cP3 m0
    rw [hX3]
    clear hst hX3 m0
    refine (kind_int (.day y m d) v X3 _ (Below.refl _ _) HI3.out).mono ?_
    rintro e w4 ⟨rfl, b4⟩
    have HB4 := Lib.hid b4
    have cP4 := keepC HcP3.out b4
    clear b4 cP3
    unfold asInt
    go_wp2_with fail
    refine (kind_text (.day y m d) v X3 _ HB4.out (HI3.out.stays HB4.out)).mono ?_
    rintro e w5 ⟨rfl, b5⟩
    have HB5 := Lib.hid b5
    have cP5 := keepC HcP3.out b5
    clear b5 cP4
    unfold asText
    go_wp2_with fail
    refine (kind_flag (.day y m d) v X3 _ HB5.out (HI3.out.stays HB5.out)).mono ?_
    rintro e w6 ⟨rfl, b6⟩
    have HB6 := Lib.hid b6
    have cP6 := keepC HcP3.out b6
    clear b6 cP5
    unfold asFlag
    go_wp2_with fail
    refine (kind_date (.day y m d) v X3 _ HB6.out (HI3.out.stays HB6.out)).mono ?_
    rintro e w7 ⟨rfl, b7⟩
    have HB8 := Lib.hid (bchain b7 (below_alloc w7 (.cells #[.int .i64 y, .int .i64 m, .int .i64 d] 30)))
    have cP8 := keepC HcP3.out HB8.out
    have HD0 : Hid ((w7.alloc (.cells #[.int .i64 y, .int .i64 m, .int .i64 d] 30)).cell? ⟨w7.heap.size, 0, none⟩ = some (.int .i64 y)) := Lib.hid (by simp [go_sem])
    have HD1 : Hid ((w7.alloc (.cells #[.int .i64 y, .int .i64 m, .int .i64 d] 30)).cell? ⟨w7.heap.size, 1, none⟩ = some (.int .i64 m)) := Lib.hid (by simp [go_sem])
    have HD2 : Hid ((w7.alloc (.cells #[.int .i64 y, .int .i64 m, .int .i64 d] 30)).cell? ⟨w7.heap.size, 2, none⟩ = some (.int .i64 d)) := Lib.hid (by simp [go_sem])
    clear b7 cP6
    unfold asDate
    go_wp2_with fail
    obtain ⟨X8, hX8⟩ : ∃ X, w7.alloc (.cells #[.int .i64 y, .int .i64 m, .int .i64 d] 30) = X := ⟨_, rfl⟩
    rw [hX8] at HB8 HD0 HD1 HD2 cP8
    rw [hX8]
    clear hX8
    refine (kind_list_no (.day y m d) v X8 _ (Below.refl _ _) (HI3.out.stays HB8.out) (by simp [Th.kind])).mono ?_
    rintro e w9 ⟨rfl, b9⟩
    have HB9 := Lib.hid b9
    have cP9 := keepC (keepC HcP3.out HB8.out) HB9.out
    have d0 := keepC HD0.out HB9.out
    have d1 := keepC HD1.out HB9.out
    have d2 := keepC HD2.out HB9.out
    have HB10 := Lib.hid (bchain (bchain HB3.out HB8.out) HB9.out)
    obtain ⟨m0, m1, m2, m3, m4, m5⟩ := HG.out _ HB10.out
    clear b9 cP8
    go_wp2_with fail
    refine wp_region_quiet_below (by kernel_rfl) (lexB_of (by kernel_rfl) (by kernel_rfl)) ?_
    dsimp only [List.append]
    have m0' := cell_regrown m0
    have m1' := cell_regrown m1
    have m2' := cell_regrown m2
    have m3' := cell_regrown m3
    have m4' := cell_regrown m4
    have m5' := cell_regrown m5
    have d0' := cell_regrown d0
    have d1' := cell_regrown d1
    have d2' := cell_regrown d2
    have HcP9 := Lib.hid cP9
    clear m0 m1 m2 m3 m4 m5 d0 d1 d2 cP9
    repeat (first | go_big_quiet_step (fail) | quiet_step (fail))
    refine wpQuiet_nil ?_
    intro _ hw'
    obtain ⟨⟨dq, osq⟩, hw''⟩ := hw'
    subst hw''
    have HBv := Lib.hid (bchain HB10.out (below_regrown w9 dq osq))
    have cPv := cell_regrown HcP9.out dq osq
    have hIv := Lib.hid (((HI3.out.stays HB8.out).stays HB9.out).stays (below_regrown w9 dq osq))
    clear m0' m1' m2' m3' m4' m5' d0' d1' d2'
    go_wp2_with fail
    have hmu := must_any (.day y m d) v w _ HBv.out hIv.out
    simp only [Th.kind] at hmu
    refine hmu.mono ?_
    rintro e w10 ⟨rfl, b10⟩
    have HB11 := Lib.hid b10
    clear b10 hmu cPv
    go_wp2_with fail
    refine (kruns_any w _ HB11.out).mono ?_
    rintro e w11 ⟨rfl, b11⟩
    have HB12 := Lib.hid b11
    clear b11
    go_wp2_with fail
    go_ret
    exact ⟨rfl, HB12.out⟩
  · exact absurd H0.out hno
set_option maxRecDepth 100000 in
set_option maxHeartbeats 4000000 in
theorem takes_list (ts : List Th) : takesP (.list ts) := by
  intro ls b off n cap w hL h0 hfl hft
  have hlen := hL.len
  have hfit := hL.fits
  have hcap := hL.reach
  have hp : 0 < n := by rw [hlen, hfl]; exact Th.flat_pos _
  have hz : ((n : Int) == 0) = false := beq_eq_false_iff_ne.2 (by omega)
  have hrow := hL.row 0 (by omega)
  have e0 : ls[0]'(by omega) = Th.head (.list ts) := by
    have e : ls[0]? = some (Th.head (.list ts)) := by rw [hfl, Th.flat_eq]; rfl
    rw [List.getElem?_eq_getElem (by omega)] at e
    exact Option.some.inj e
  rw [e0, Nat.zero_mul, Nat.add_zero] at hrow
  obtain ⟨g0, g1, g2, g3, g4, g5⟩ := hrow
  simp only [Th.head] at g0 g1 g2 g3 g4 g5
  have ne : ((ts.length : Int) == (ts.length : Int)) = true := beq_self_eq_true _
  have nm : ((ts.length : Int) != (ts.length : Int)) = false := bne_self_eq_false _
  have HL := Lib.hid hL
  have H0 := Lib.hid h0
  have HFl := Lib.hid hfl
  have HFt := Lib.hid hft
  have HG : Hid (∀ X : World, Below w.heap.size w X → X.cell? ⟨b, off, none⟩ = some (.int .i64 5) ∧ X.cell? ⟨b, off + 1, none⟩ = some (.int .i64 (ts.length : Int)) ∧ X.cell? ⟨b, off + 2, none⟩ = some (.string .empty) ∧ X.cell? ⟨b, off + 3, none⟩ = some (.int .i64 0) ∧ X.cell? ⟨b, off + 4, none⟩ = some (.int .i64 0) ∧ X.cell? ⟨b, off + 5, none⟩ = some (.int .i64 0)) := Lib.hid (fun X hX => ⟨keepC g0 hX, keepC g1 hX, keepC g2 hX, keepC g3 hX, keepC g4 hX, keepC g5 hX⟩)
  clear hL h0 hfl hft hlen g0 g1 g2 g3 g4 g5 e0
  go_enter Try.func5, Try.ntmps5
  go_wp2_with fail
  refine (refKindOf_any ls _ n cap w w (Below.refl _ _) HL.out).mono ?_
  rintro e w1 ⟨rfl, b1⟩
  rw [H0.out]
  have HB1 := Lib.hid b1
  clear b1
  go_wp2_with fail
  refine (thing_any ls _ n cap _ (HL.out.below HB1.out)).mono ?_
  rintro e w2 ⟨he, b2⟩
  rcases he with ⟨_, t, v, rfl, hI, hf1, hf2⟩ | ⟨hno, _⟩
  · have ht : t = (.list ts) := Th.flat_inj hf2.1 HFt.out.1 (by rw [← hf1, ← HFl.out])
    subst ht
    have hv1 := hI.oneCell
    have hst := store_fresh w2 v hv1
    have hI3 := hI.stays (below_alloc w2 (.cells #[v] 25))
    have HB3 := Lib.hid (bchain (bchain HB1.out b2) (below_alloc w2 (.cells #[v] 25)))
    have HcP3 : Hid ((w2.alloc (.cells #[v] 25)).cell? ⟨w2.heap.size, 0, none⟩ = some v) := Lib.hid (by simp [go_sem])
    have HI3 := Lib.hid hI3
    have hG := HG.out _ HB3.out
    obtain ⟨m0, m1, m2, m3, m4, m5⟩ := hG
    have cP3 := HcP3.out
    clear hI hI3 b2 hf1 hf2 m1 m2 m3 m4 m5
    go_wp2_with fail
    obtain ⟨X3, hX3⟩ : ∃ X, w2.alloc (.cells #[v] 25) = X := ⟨_, rfl⟩
    rw [hX3] at HB3 HcP3 HI3 cP3 m0
    rw [hX3]
    clear hst hX3 m0
    refine (kind_int (.list ts) v X3 _ (Below.refl _ _) HI3.out).mono ?_
    rintro e w4 ⟨rfl, b4⟩
    have HB4 := Lib.hid b4
    have cP4 := keepC HcP3.out b4
    clear b4 cP3
    unfold asInt
    go_wp2_with fail
    refine (kind_text (.list ts) v X3 _ HB4.out (HI3.out.stays HB4.out)).mono ?_
    rintro e w5 ⟨rfl, b5⟩
    have HB5 := Lib.hid b5
    have cP5 := keepC HcP3.out b5
    clear b5 cP4
    unfold asText
    go_wp2_with fail
    refine (kind_flag (.list ts) v X3 _ HB5.out (HI3.out.stays HB5.out)).mono ?_
    rintro e w6 ⟨rfl, b6⟩
    have HB6 := Lib.hid b6
    have cP6 := keepC HcP3.out b6
    clear b6 cP5
    unfold asFlag
    go_wp2_with fail
    refine (kind_date (.list ts) v X3 _ HB6.out (HI3.out.stays HB6.out)).mono ?_
    rintro e w7 ⟨rfl, b7⟩
    have HB8 := Lib.hid (bchain b7 (below_alloc w7 (.cells #[.int .i64 0, .int .i64 0, .int .i64 0] 30)))
    have cP8 := keepC HcP3.out HB8.out
    have HD0 : Hid ((w7.alloc (.cells #[.int .i64 0, .int .i64 0, .int .i64 0] 30)).cell? ⟨w7.heap.size, 0, none⟩ = some (.int .i64 0)) := Lib.hid (by simp [go_sem])
    have HD1 : Hid ((w7.alloc (.cells #[.int .i64 0, .int .i64 0, .int .i64 0] 30)).cell? ⟨w7.heap.size, 1, none⟩ = some (.int .i64 0)) := Lib.hid (by simp [go_sem])
    have HD2 : Hid ((w7.alloc (.cells #[.int .i64 0, .int .i64 0, .int .i64 0] 30)).cell? ⟨w7.heap.size, 2, none⟩ = some (.int .i64 0)) := Lib.hid (by simp [go_sem])
    clear b7 cP6
    unfold asDate
    go_wp2_with fail
    obtain ⟨X8, hX8⟩ : ∃ X, w7.alloc (.cells #[.int .i64 0, .int .i64 0, .int .i64 0] 30) = X := ⟨_, rfl⟩
    rw [hX8] at HB8 HD0 HD1 HD2 cP8
    rw [hX8]
    clear hX8
    refine (kind_list ts v X8 _ (Below.refl _ _) (HI3.out.stays HB8.out)).mono ?_
    rintro e w9 ⟨⟨g9, vs9, rfl, _, _, _, hl9⟩, _, b9⟩
    have HB9 := Lib.hid b9
    have cP9 := keepC (keepC HcP3.out HB8.out) HB9.out
    have d0 := keepC HD0.out HB9.out
    have d1 := keepC HD1.out HB9.out
    have d2 := keepC HD2.out HB9.out
    have HB10 := Lib.hid (bchain (bchain HB3.out HB8.out) HB9.out)
    obtain ⟨m0, m1, m2, m3, m4, m5⟩ := HG.out _ HB10.out
    clear b9 cP8
    go_wp2_with fail
    refine wp_region_quiet_below (by kernel_rfl) (lexB_of (by kernel_rfl) (by kernel_rfl)) ?_
    dsimp only [List.append]
    have m0' := cell_regrown m0
    have m1' := cell_regrown m1
    have m2' := cell_regrown m2
    have m3' := cell_regrown m3
    have m4' := cell_regrown m4
    have m5' := cell_regrown m5
    have d0' := cell_regrown d0
    have d1' := cell_regrown d1
    have d2' := cell_regrown d2
    have HcP9 := Lib.hid cP9
    clear m0 m1 m2 m3 m4 m5 d0 d1 d2 cP9
    repeat (first | go_big_quiet_step (fail) | quiet_step (fail))
    refine wpQuiet_nil ?_
    intro _ hw'
    obtain ⟨⟨dq, osq⟩, hw''⟩ := hw'
    subst hw''
    have HBv := Lib.hid (bchain HB10.out (below_regrown w9 dq osq))
    have cPv := cell_regrown HcP9.out dq osq
    have hIv := Lib.hid (((HI3.out.stays HB8.out).stays HB9.out).stays (below_regrown w9 dq osq))
    clear m0' m1' m2' m3' m4' m5' d0' d1' d2'
    go_wp2_with fail
    have hmu := must_any (.list ts) v w _ HBv.out hIv.out
    simp only [Th.kind] at hmu
    refine hmu.mono ?_
    rintro e w10 ⟨rfl, b10⟩
    have HB11 := Lib.hid b10
    clear b10 hmu cPv
    go_wp2_with fail
    refine (kruns_any w _ HB11.out).mono ?_
    rintro e w11 ⟨rfl, b11⟩
    have HB12 := Lib.hid b11
    clear b11
    go_wp2_with fail
    go_ret
    exact ⟨rfl, HB12.out⟩
  · exact absurd H0.out hno
theorem takes_any : ∀ t : Th, takesP t
  | .none => takes_nothing
  | .num q => takes_num q
  | .text s => takes_text s
  | .flag true => takes_flag_true
  | .flag false => takes_flag_false
  | .day y m d => takes_day y m d
  | .list ts => takes_list ts
set_option maxRecDepth 100000 in
set_option maxHeartbeats 2000000 in
theorem kindTakes_walk (ls : List T) (ao : Option Addr) (n cap : Nat) (w : World) (hL : Vl.Ls w ao n cap ls) :
    Calls Try.prog 5 #[.slice ao n cap] w fun e w' => e = .returned (.bool true) ∧ Below w.heap.size w w' := by
  by_cases h0 : Kd.ofE ls = 0
  · obtain ⟨t, _, h2, h3, h4⟩ := Th.ofE_zero h0
    have hp : 0 < n := by rw [hL.len, h2]; exact Th.flat_pos _
    obtain ⟨b, off, rfl⟩ := hL.at hp
    exact takes_any t ls b off n cap w hL h0 h2 ⟨h3, by rw [← h2]; omega⟩
  · have HL := Lib.hid hL
    have hfit := hL.fits
    have hcap := hL.reach
    have hne : (Kd.ofE ls != 0) = true := bne_iff_ne.2 h0
    clear hL h0
    by_cases hn : n = 0
    · subst hn
      go_enter Try.func5, Try.ntmps5
      go_wp2_with fail
      refine (kruns_any w _ (Below.refl _ _)).mono ?_
      rintro e w11 ⟨rfl, b11⟩
      have HB12 := Lib.hid b11
      clear b11
      go_wp2_with fail
      go_ret
      exact ⟨rfl, HB12.out⟩
    · have hz : ((n : Int) == 0) = false := beq_eq_false_iff_ne.2 (by omega)
      go_enter Try.func5, Try.ntmps5
      go_wp2_with fail
      refine (refKindOf_any ls _ n cap w w (Below.refl _ _) HL.out).mono ?_
      rintro e w1 ⟨rfl, b1⟩
      have HB1 := Lib.hid b1
      clear b1
      go_wp2_with fail
      refine (kruns_any w _ HB1.out).mono ?_
      rintro e w11 ⟨rfl, b11⟩
      have HB12 := Lib.hid b11
      clear b11
      go_wp2_with fail
      go_ret
      exact ⟨rfl, HB12.out⟩
end Go.Proofs.Ytfmfeagfinnmmaa
