/- MERGED: CRun0, CRuns. (By mg.py.) -/
import Derived.Test.YtndfhnaafaijcaaMGi
import Derived.Test.YtndfhnaafaijcaaMGl
import Derived.Test.YtndfhnaafaijcaaMGf
import Derived.Test.YtndfhnaafaijcaaMGa
import Derived.Test.YtndfhnaafaijcaaMGm
/- WHAT CommandRuns NEEDS. (By gencruns.py.) -/
set_option linter.unusedVariables false
set_option maxRecDepth 100000
namespace Go.Proofs.Ytndfhnaafaijcaa
open Go.RowKit
open Mem Pk Cm

theorem TwoAt.below {u v : World} {p q : Nat} {a c : Int} {b : Bool} (h : TwoAt u p q a c b) (k : Below u.heap.size u v) : TwoAt v p q a c b := by
  have hp := cell_lt h.c0
  have hq := cell_lt h.c2
  exact ⟨by rw [(bcell k).1 _ _ hp]; exact h.c0, by rw [(bcell k).1 _ _ hp]; exact h.c1, by rw [(bcell k).1 _ _ hq]; exact h.c2, fun o => by rw [(bcell k).2 _ _ hp]; exact h.f0 o, by rw [(bcell k).2 _ _ hq]; exact h.f1⟩
theorem twoW_at (w : World) : TwoAt (twoW w) w.heap.size (w.heap.size + 1) 0 0 false := by
  unfold twoW
  refine ⟨?_, ?_, ?_, fun o => ?_, ?_⟩ <;> simp [go_sem]
theorem twoW_below (w : World) : Below w.heap.size w (twoW w) := ((Below.refl _ _).alloc (Nat.le_refl _) _).alloc (by simp) _
/-- a Command's own place -/
theorem boxC (w : World) (v : Value) : ∃ W, w.alloc (.cells #[v] 25) = W ∧ Below w.heap.size w W ∧ W.cell? ⟨w.heap.size, 0, none⟩ = some v :=
  ⟨_, rfl, below_box (Below.refl _ _) _, by simp [go_sem]⟩
theorem boxS (w : World) (v : Value) (h : v.oneCell' = true) : ∃ W, (store ⟨w.heap.size, 0, none⟩ v).run Try.prog (w.alloc (.cells #[.nilIface] 25)) = .ok () W ∧ Below w.heap.size w W ∧ W.cell? ⟨w.heap.size, 0, none⟩ = some v :=
  ⟨_, store_fresh w v h, below_box (Below.refl _ _) _, by simp [go_sem]⟩
theorem boxN (w : World) : ∃ W, w.alloc (.cells #[.nilIface] 25) = W ∧ Below w.heap.size w W ∧ W.cell? ⟨w.heap.size, 0, none⟩ = some .nilIface ∧ W.frozen? ⟨w.heap.size, 0, none⟩ = false ∧ W.setCell ⟨w.heap.size, 0, none⟩ .nilIface = W :=
  ⟨_, rfl, below_box (Below.refl _ _) _, by simp [go_sem], by simp [go_sem], by simp [go_sem]⟩
theorem fld0 (s : ByteArray) (b c d e : Value) (u : World) : (Instr.field 49 (.agg #[.string s, b, c, d, e]) 0).run Try.prog u = .ok (.string s) u := by kernel_rfl
theorem keepC {u v : World} (k : Below u.heap.size u v) {b o : Nat} {x : Value} (h : u.cell? ⟨b, o, none⟩ = some x) : v.cell? ⟨b, o, none⟩ = some x := by
  rw [(bcell k).1 _ _ (cell_lt h)]
  exact h
/-- a literal of bytes -/
theorem lit_ls (w : World) (bs : List UInt8) (h : bs.length ≤ 1000) : By.Ls (w.alloc (.cells (bs.map By.bv).toArray 5)) (some ⟨w.heap.size, 0, none⟩) bs.length bs.length bs :=
  By.Block.ls (heap_alloc_new w _) (by omega)
theorem zero_in (w : World) (c : Cm.T) (hf : (c.sem []).Fit') (hk : Fit c.kind) (h1 : c.ao = none) (h2 : c.n = 0) (h3 : c.cap = 0) : Cm.In w c [] := Cm.in_of hf hk (by rw [h1, h2, h3]; exact Ln.ls_nil w)
theorem txt_small (l : List UInt8) (h : l.length ≤ 1000) : (ByteArray.mk l.toArray).size ≤ 140737488355328 := by show l.length ≤ _; omega
theorem nol : ∀ x ∈ ([] : List Ln.T), Ln.Short x := fun _ h => by cases h
theorem fitA : Fit 5 := ⟨by omega, by omega⟩

theorem of_c1 (w : World) : Calls Try.prog 9 #[Cm.val { Cm.T.zero with kind := 1, series := ⟨#[97]⟩, limit := 5 }] w fun e w' => e = .returned (.tuple #[Cm.cv (.iface 73 (.agg #[.string ⟨#[97]⟩, .int .i64 5])), .int .i64 0]) ∧ Below w.heap.size w w' := by
  unfold Cm.val
  go_enter Try.func9, Try.ntmps9
  go_wp2_with fail
  exact bodyPost_ret (v := .tuple #[Cm.cv (.iface 73 (.agg #[.string ⟨#[97]⟩, .int .i64 5])), .int .i64 0]) (by simp [results, Cm.cv, Try.results9, go_sem]) rfl ⟨rfl, below_box (below_box (Below.refl _ _) _) _⟩

theorem of_c2 (w : World) : Calls Try.prog 9 #[Cm.val { Cm.T.zero with kind := 6 }] w fun e w' => e = .returned (.tuple #[Cm.cv (.iface 82 (.agg #[])), .int .i64 0]) ∧ Below w.heap.size w w' := by
  unfold Cm.val
  go_enter Try.func9, Try.ntmps9
  go_wp2_with fail
  exact bodyPost_ret (v := .tuple #[Cm.cv (.iface 82 (.agg #[])), .int .i64 0]) (by simp [results, Cm.cv, Try.results9, go_sem]) rfl ⟨rfl, below_box (below_box (Below.refl _ _) _) _⟩

theorem of_c3 (w : World) : Calls Try.prog 9 #[Cm.val { Cm.T.zero with kind := 8, series := ⟨#[97]⟩ }] w fun e w' => e = .returned (.tuple #[Cm.cv (.iface 85 (.agg #[.string ⟨#[97]⟩])), .int .i64 0]) ∧ Below w.heap.size w w' := by
  unfold Cm.val
  go_enter Try.func9, Try.ntmps9
  go_wp2_with fail
  exact bodyPost_ret (v := .tuple #[Cm.cv (.iface 85 (.agg #[.string ⟨#[97]⟩])), .int .i64 0]) (by simp [results, Cm.cv, Try.results9, go_sem]) rfl ⟨rfl, below_box (below_box (Below.refl _ _) _) _⟩

theorem is_1 (w : World) : Cm.Is w (S.opn ⟨#[97]⟩ 5) (.iface 73 (.agg #[.string ⟨#[97]⟩, .int .i64 5])) := .opn _ _ (txt_small [97] (by decide)) fitA
theorem is_2 (w : World) : Cm.Is w S.jn (.iface 82 (.agg #[])) := .jn
theorem is_3 (w : World) : Cm.Is w (S.sk ⟨#[97]⟩) (.iface 85 (.agg #[.string ⟨#[97]⟩])) := .sk _ (txt_small [97] (by decide))
theorem in_4 (w : World) : Cm.In w { Cm.T.zero with kind := 4, series := ⟨#[120]⟩ } [] := zero_in w _ (fitS (txt_small [120] (by decide)) empty_size empty_size fit0 fit0 fit0 fit0 fit0 fit0 fit0 fit0 fit0 fit0 nol) ⟨by show (-9223372036854775808 : Int) ≤ 4; omega, by show (4 : Int) ≤ 9223372036854775807; omega⟩ rfl rfl rfl
theorem runs_p1 : (S.opn ⟨#[97]⟩ 5).putE = 0 ∧ (S.opn ⟨#[97]⟩ 5).putB = [2, 2, 97, 10] := by decide +kernel
theorem runs_p2 : S.jn.putE = 0 ∧ S.jn.putB = [12] := by decide +kernel
theorem runs_p0 : S.zero.putE = 17 ∧ S.zero.putB = [] := by decide +kernel
theorem runs_g1 : (Cm.get [12, 0]).2 = 5 := by decide +kernel
theorem runs_g2 : (Cm.get [18]).2 = 17 := by decide +kernel
theorem runs_g3 : (Cm.get [2, 2]).2 = 3 := by decide +kernel
theorem get_nil {bs : List UInt8} {x : Int} (h : (Cm.get bs).2 = x) (hx : x ≠ 0) {w : World} {e : Ending} {w' : World} (hE : GetE bs w e w') : e = .returned (.tuple #[Cm.cv .nilIface, .int .i64 x]) ∧ Below w.heap.size w w' := by
  obtain ⟨⟨v, rfl, hI⟩, hb⟩ := hE
  have hz := get_zero (bs := bs) (by rw [h]; exact hx)
  have hi := hI.is
  rw [hz] at hi
  rcases hi.good with ⟨_, rfl⟩ | hg
  · rw [h]
    exact ⟨rfl, hb⟩
  · exact absurd hg.lo (by show ¬ (1 : Int) ≤ 0; omega)
/-- CommandRuns' closure: it panics -/
theorem runs_closure (w : World) (b : Nat) (hc : w.cell? ⟨b, 0, none⟩ = some (.iface 82 (.agg #[]))) : Calls Try.prog 14 #[.pointer (some ⟨b, 0, none⟩)] w fun e w' => e = .panicked [{ v := .iface 45 (.agg #[.int .i64 4, .int .i64 6]), recovered := false }] ∧ Below w.heap.size w w' := by
  go_enter Try.func14, Try.ntmps14
  go_wp2_with fail
  refine (must_no S.jn _ w (is_2 w) (by decide)).mono ?_
  rintro e w2 ⟨rfl, b2⟩
  have HB2 := Lib.hid b2
  clear b2
  go_wp2_with fail
  exact ⟨rfl, rfl, HB2.out⟩
theorem runs_caught (w : World) (b : Nat) (hc : w.cell? ⟨b, 0, none⟩ = some (.iface 82 (.agg #[]))) : Calls Try.prog 13 #[.func (.func 14) #[] #[.pointer (some ⟨b, 0, none⟩)]] w fun e w' => e = .returned (.tuple #[.agg #[.int .i64 4, .int .i64 6], .bool true]) ∧ Below w.heap.size w w' := by
  refine (caught_hit 14 4 6 #[.pointer (some ⟨b, 0, none⟩)] w (fun u => Below w.heap.size w u) (fun _ _ => rfl) ((runs_closure (twoW w) b (keepC (twoW_below w) hc)).mono ?_)).mono ?_
  · rintro e u ⟨rfl, b⟩
    exact ⟨rfl, bchain (twoW_below w) b, (twoW_at w).below b⟩
  · rintro e w' ⟨rfl, u, hu, b⟩
    exact ⟨rfl, hu.trans b⟩
end Go.Proofs.Ytndfhnaafaijcaa

/- THE WALK OF CommandRuns. (By gencruns.py.) -/
set_option linter.unusedVariables false
set_option maxRecDepth 100000
namespace Go.Proofs.Ytndfhnaafaijcaa
open Go.RowKit
open Mem Pk Cm

theorem boxA (w : World) : ∃ W, w.alloc (.cells #[.int .i64 8, .string ⟨#[97]⟩, .int .i64 0, .string .empty, .int .i64 0, .int .i64 0, .int .i64 0, .int .i64 0, .int .i64 0, .int .i64 0, .int .i64 0, .slice none 0 0, .string .empty, .int .i64 0, .int .i64 0] 37) = W ∧ Below w.heap.size w W ∧ W.cell? ⟨w.heap.size, 0, none⟩ = some (.int .i64 8) ∧ W.cell? ⟨w.heap.size, 1, none⟩ = some (.string ⟨#[97]⟩) :=
  ⟨_, rfl, below_box (Below.refl _ _) _, by simp [go_sem], by simp [go_sem]⟩
theorem boxW (w : World) (a b : Int) : ∃ W, w.alloc (.cells #[.int .i64 a, .int .i64 b] 45) = W ∧ Below w.heap.size w W ∧ W.cell? ⟨w.heap.size, 0, none⟩ = some (.int .i64 a) ∧ W.cell? ⟨w.heap.size, 1, none⟩ = some (.int .i64 b) :=
  ⟨_, rfl, below_box (Below.refl _ _) _, by simp [go_sem], by simp [go_sem]⟩
set_option maxHeartbeats 8000000 in
theorem cruns (w : World) : Calls Try.prog 3 #[] w fun e w' => e = .returned (.bool true) ∧ Below w.heap.size w w' := by
  go_enter Try.func3, Try.ntmps3
  go_wp2_with fail
  refine (of_c1 w).mono ?_
  rintro e w1 ⟨rfl, b1⟩
  have HB1 := Lib.hid b1
  obtain ⟨W1, hW1, d1, c1⟩ := boxC w1 (.iface 73 (.agg #[.string ⟨#[97]⟩, .int .i64 5]))
  have HB2 := Lib.hid (bchain HB1.out d1)
  clear b1 d1
  unfold Cm.cv
  go_wp2_with fail
  clear hW1
  refine (of_c2 W1).mono ?_
  rintro e w2 ⟨rfl, b2⟩
  replace c1 := keepC b2 c1
  have HB3 := Lib.hid (bchain HB2.out b2)
  obtain ⟨W2, hW2, d2, c2⟩ := boxC w2 (.iface 82 (.agg #[]))
  replace c1 := keepC d2 c1
  have HB4 := Lib.hid (bchain HB3.out d2)
  clear b2 d2
  unfold Cm.cv
  go_wp2_with fail
  clear hW2
  refine (of_c3 W2).mono ?_
  rintro e w3 ⟨rfl, b3⟩
  replace c1 := keepC b3 c1
  replace c2 := keepC b3 c2
  have HB5 := Lib.hid (bchain HB4.out b3)
  obtain ⟨W3, hW3, d3, c3⟩ := boxC w3 (.iface 85 (.agg #[.string ⟨#[97]⟩]))
  replace c1 := keepC d3 c1
  replace c2 := keepC d3 c2
  have HB6 := Lib.hid (bchain HB5.out d3)
  clear b3 d3
  unfold Cm.cv
  go_wp2_with fail
  clear hW3
  refine (put_any (S.opn ⟨#[97]⟩ 5) (.iface 73 (.agg #[.string ⟨#[97]⟩, .int .i64 5])) W3 (is_1 W3)).mono ?_
  rintro e w4 ⟨⟨ao4, n4, cap4, rfl, hL4⟩, b4⟩
  rw [runs_p1.1]
  rw [runs_p1.2] at hL4
  replace c1 := keepC b4 c1
  replace c2 := keepC b4 c2
  replace c3 := keepC b4 c3
  have HB7 := Lib.hid (bchain HB6.out b4)
  have HL4 := Lib.hid hL4
  clear b4 hL4
  go_wp2_with fail
  refine (put_any S.jn (.iface 82 (.agg #[])) w4 (is_2 w4)).mono ?_
  rintro e w5 ⟨⟨ao5, n5, cap5, rfl, hL5⟩, b5⟩
  rw [runs_p2.1]
  rw [runs_p2.2] at hL5
  replace c1 := keepC b5 c1
  replace c2 := keepC b5 c2
  replace c3 := keepC b5 c3
  replace HL4 := Lib.hid (HL4.out.below b5)
  have HB8 := Lib.hid (bchain HB7.out b5)
  have HL5 := Lib.hid hL5
  clear b5 hL5
  go_wp2_with fail
  refine (put_any S.zero .nilIface w5 .none).mono ?_
  rintro e w6 ⟨⟨ao6, n6, cap6, rfl, hL6⟩, b6⟩
  rw [runs_p0.1]
  rw [runs_p0.2] at hL6
  replace c1 := keepC b6 c1
  replace c2 := keepC b6 c2
  replace c3 := keepC b6 c3
  replace HL4 := Lib.hid (HL4.out.below b6)
  replace HL5 := Lib.hid (HL5.out.below b6)
  have HB9 := Lib.hid (bchain HB8.out b6)
  clear b6 hL6
  go_wp2_with fail
  have z7 : Below w6.heap.size w6 (w6.alloc (.cells #[.int .u8 12, .int .u8 0] 5)) := below_box (Below.refl _ _) _
  replace c1 := keepC z7 c1
  replace c2 := keepC z7 c2
  replace c3 := keepC z7 c3
  replace HL4 := Lib.hid (HL4.out.below z7)
  replace HL5 := Lib.hid (HL5.out.below z7)
  have HB10 := Lib.hid (bchain HB9.out z7)
  refine (get_any [12, 0] (some ⟨w6.heap.size, 0, none⟩) 2 2 _ (lit_ls w6 [12, 0] (by decide))).mono ?_
  intro e w7 hE
  obtain ⟨rfl, b7⟩ := get_nil runs_g1 (by omega) hE
  replace c1 := keepC b7 c1
  replace c2 := keepC b7 c2
  replace c3 := keepC b7 c3
  replace HL4 := Lib.hid (HL4.out.below b7)
  replace HL5 := Lib.hid (HL5.out.below b7)
  have HB11 := Lib.hid (bchain HB10.out b7)
  obtain ⟨W7, hW7, d7, x7, y7, s7⟩ := boxN w7
  replace c1 := keepC d7 c1
  replace c2 := keepC d7 c2
  replace c3 := keepC d7 c3
  replace HL4 := Lib.hid (HL4.out.below d7)
  replace HL5 := Lib.hid (HL5.out.below d7)
  have HB12 := Lib.hid (bchain HB11.out d7)
  clear b7 d7 z7 hE
  unfold Cm.cv
  go_wp2_with fail
  clear hW7 x7 y7 s7
  have z8 : Below W7.heap.size W7 (W7.alloc (.cells #[.int .u8 18] 5)) := below_box (Below.refl _ _) _
  replace c1 := keepC z8 c1
  replace c2 := keepC z8 c2
  replace c3 := keepC z8 c3
  replace HL4 := Lib.hid (HL4.out.below z8)
  replace HL5 := Lib.hid (HL5.out.below z8)
  have HB13 := Lib.hid (bchain HB12.out z8)
  refine (get_any [18] (some ⟨W7.heap.size, 0, none⟩) 1 1 _ (lit_ls W7 [18] (by decide))).mono ?_
  intro e w8 hE
  obtain ⟨rfl, b8⟩ := get_nil runs_g2 (by omega) hE
  replace c1 := keepC b8 c1
  replace c2 := keepC b8 c2
  replace c3 := keepC b8 c3
  replace HL4 := Lib.hid (HL4.out.below b8)
  replace HL5 := Lib.hid (HL5.out.below b8)
  have HB14 := Lib.hid (bchain HB13.out b8)
  obtain ⟨W8, hW8, d8, x8, y8, s8⟩ := boxN w8
  replace c1 := keepC d8 c1
  replace c2 := keepC d8 c2
  replace c3 := keepC d8 c3
  replace HL4 := Lib.hid (HL4.out.below d8)
  replace HL5 := Lib.hid (HL5.out.below d8)
  have HB15 := Lib.hid (bchain HB14.out d8)
  clear b8 d8 z8 hE
  unfold Cm.cv
  go_wp2_with fail
  clear hW8 x8 y8 s8
  have z9 : Below W8.heap.size W8 (W8.alloc (.cells #[.int .u8 2, .int .u8 2] 5)) := below_box (Below.refl _ _) _
  replace c1 := keepC z9 c1
  replace c2 := keepC z9 c2
  replace c3 := keepC z9 c3
  replace HL4 := Lib.hid (HL4.out.below z9)
  replace HL5 := Lib.hid (HL5.out.below z9)
  have HB16 := Lib.hid (bchain HB15.out z9)
  refine (get_any [2, 2] (some ⟨W8.heap.size, 0, none⟩) 2 2 _ (lit_ls W8 [2, 2] (by decide))).mono ?_
  intro e w9 hE
  obtain ⟨rfl, b9⟩ := get_nil runs_g3 (by omega) hE
  replace c1 := keepC b9 c1
  replace c2 := keepC b9 c2
  replace c3 := keepC b9 c3
  replace HL4 := Lib.hid (HL4.out.below b9)
  replace HL5 := Lib.hid (HL5.out.below b9)
  have HB17 := Lib.hid (bchain HB16.out b9)
  obtain ⟨W9, hW9, d9, x9, y9, s9⟩ := boxN w9
  replace c1 := keepC d9 c1
  replace c2 := keepC d9 c2
  replace c3 := keepC d9 c3
  replace HL4 := Lib.hid (HL4.out.below d9)
  replace HL5 := Lib.hid (HL5.out.below d9)
  have HB18 := Lib.hid (bchain HB17.out d9)
  clear b9 d9 z9 hE
  unfold Cm.cv
  go_wp2_with fail
  clear hW9 x9 y9 s9
  refine (flat_8 ⟨#[97]⟩ (txt_small [97] (by decide)) W9).mono ?_
  rintro e w10 ⟨rfl, b10⟩
  replace c1 := keepC b10 c1
  replace c2 := keepC b10 c2
  replace c3 := keepC b10 c3
  replace HL4 := Lib.hid (HL4.out.below b10)
  replace HL5 := Lib.hid (HL5.out.below b10)
  have HB19 := Lib.hid (bchain HB18.out b10)
  dsimp only [Cm.val, Cm.T.zero]
  go_wp2_with (first | (with_reducible apply Cm.wpl_store; rfl; rfl; kernel_rfl; rfl; kernel_rfl; rfl; rfl; rfl))
  obtain ⟨W10, hW10, d10, k0, k1⟩ := boxA w10
  replace c1 := keepC d10 c1
  replace c2 := keepC d10 c2
  replace c3 := keepC d10 c3
  replace HL4 := Lib.hid (HL4.out.below d10)
  replace HL5 := Lib.hid (HL5.out.below d10)
  have HB20 := Lib.hid (bchain HB19.out d10)
  rw [hW10]
  clear b10 d10 hW10
  refine (runs_caught W10 _ c2).mono ?_
  rintro e w11 ⟨rfl, b11⟩
  replace c1 := keepC b11 c1
  replace c2 := keepC b11 c2
  replace c3 := keepC b11 c3
  replace HL4 := Lib.hid (HL4.out.below b11)
  replace HL5 := Lib.hid (HL5.out.below b11)
  replace k0 := keepC b11 k0
  replace k1 := keepC b11 k1
  have HB21 := Lib.hid (bchain HB20.out b11)
  obtain ⟨W11, hW11, d11, m0, m1⟩ := boxW w11 4 6
  replace c1 := keepC d11 c1
  replace c2 := keepC d11 c2
  replace c3 := keepC d11 c3
  replace HL4 := Lib.hid (HL4.out.below d11)
  replace HL5 := Lib.hid (HL5.out.below d11)
  replace k0 := keepC d11 k0
  replace k1 := keepC d11 k1
  have HB22 := Lib.hid (bchain HB21.out d11)
  clear b11 d11
  go_wp2_with fail
  clear hW11
  refine (of_4 { Cm.T.zero with kind := 4, series := ⟨#[120]⟩ } [] W11 (in_4 W11) (Nat.zero_le _) rfl).mono ?_
  rintro e w12 ⟨⟨v, rfl, hI⟩, b12⟩
  replace c1 := keepC b12 c1
  replace c2 := keepC b12 c2
  replace c3 := keepC b12 c3
  replace HL4 := Lib.hid (HL4.out.below b12)
  replace HL5 := Lib.hid (HL5.out.below b12)
  replace k0 := keepC b12 k0
  replace k1 := keepC b12 k1
  replace m0 := keepC b12 m0
  replace m1 := keepC b12 m1
  have HB23 := Lib.hid (bchain HB22.out b12)
  obtain ⟨W12, hst, d12, c4⟩ := boxS w12 v hI.is.oneCell
  have HI := Lib.hid (hI.is.below d12)
  replace c1 := keepC d12 c1
  replace c2 := keepC d12 c2
  replace c3 := keepC d12 c3
  replace HL4 := Lib.hid (HL4.out.below d12)
  replace HL5 := Lib.hid (HL5.out.below d12)
  replace k0 := keepC d12 k0
  replace k1 := keepC d12 k1
  replace m0 := keepC d12 m0
  replace m1 := keepC d12 m1
  have HB24 := Lib.hid (bchain HB23.out d12)
  clear b12 d12 hI
  unfold Cm.cv
  have z13 : Below W12.heap.size W12 (W12.alloc (.cells #[.int .u8 2, .int .u8 2, .int .u8 97, .int .u8 10] 5)) := below_box (Below.refl _ _) _
  go_wp2_with fail
  clear hst
  replace c1 := keepC z13 c1
  replace c2 := keepC z13 c2
  replace c3 := keepC z13 c3
  replace HL4 := Lib.hid (HL4.out.below z13)
  replace HL5 := Lib.hid (HL5.out.below z13)
  replace k0 := keepC z13 k0
  replace k1 := keepC z13 k1
  replace m0 := keepC z13 m0
  replace m1 := keepC z13 m1
  replace c4 := keepC z13 c4
  replace HI := Lib.hid (HI.out.below z13)
  have HB25 := Lib.hid (bchain HB24.out z13)
  refine (By.same_any [2, 2, 97, 10] [2, 2, 97, 10] ao4 (some ⟨W12.heap.size, 0, none⟩) n4 4 cap4 4 _ HL4.out (lit_ls W12 [2, 2, 97, 10] (by decide))).mono ?_
  rintro e w13 ⟨rfl, b13⟩
  rw [show decide (([2, 2, 97, 10] : List UInt8) = [2, 2, 97, 10]) = true from decide_eq_true rfl]
  replace c1 := keepC b13 c1
  replace c2 := keepC b13 c2
  replace c3 := keepC b13 c3
  replace HL4 := Lib.hid (HL4.out.below b13)
  replace HL5 := Lib.hid (HL5.out.below b13)
  replace k0 := keepC b13 k0
  replace k1 := keepC b13 k1
  replace m0 := keepC b13 m0
  replace m1 := keepC b13 m1
  replace c4 := keepC b13 c4
  replace HI := Lib.hid (HI.out.below b13)
  have HB26 := Lib.hid (bchain HB25.out b13)
  clear b13 z13
  have z14 : Below w13.heap.size w13 (w13.alloc (.cells #[.int .u8 12] 5)) := below_box (Below.refl _ _) _
  go_wp2_with fail
  replace c1 := keepC z14 c1
  replace c2 := keepC z14 c2
  replace c3 := keepC z14 c3
  replace HL4 := Lib.hid (HL4.out.below z14)
  replace HL5 := Lib.hid (HL5.out.below z14)
  replace k0 := keepC z14 k0
  replace k1 := keepC z14 k1
  replace m0 := keepC z14 m0
  replace m1 := keepC z14 m1
  replace c4 := keepC z14 c4
  replace HI := Lib.hid (HI.out.below z14)
  have HB27 := Lib.hid (bchain HB26.out z14)
  refine (By.same_any [12] [12] ao5 (some ⟨w13.heap.size, 0, none⟩) n5 1 cap5 1 _ HL5.out (lit_ls w13 [12] (by decide))).mono ?_
  rintro e w14 ⟨rfl, b14⟩
  rw [show decide (([12] : List UInt8) = [12]) = true from decide_eq_true rfl]
  replace c1 := keepC b14 c1
  replace c2 := keepC b14 c2
  replace c3 := keepC b14 c3
  replace HL4 := Lib.hid (HL4.out.below b14)
  replace HL5 := Lib.hid (HL5.out.below b14)
  replace k0 := keepC b14 k0
  replace k1 := keepC b14 k1
  replace m0 := keepC b14 m0
  replace m1 := keepC b14 m1
  replace c4 := keepC b14 c4
  replace HI := Lib.hid (HI.out.below b14)
  have HB28 := Lib.hid (bchain HB27.out b14)
  clear b14 z14
  go_wp2_with fail
  refine (must_ok (S.pst ⟨#[120]⟩ 0 0 0 []) v w14 HI.out rfl).mono ?_
  rintro e w15 ⟨⟨ao9, cap9, rfl, _⟩, b15⟩
  dsimp only [S.pst]
  have qx : ((⟨#[120]⟩ : ByteArray).toList == (⟨#[120]⟩ : ByteArray).toList) = true := beq_self_eq_true _
  replace k0 := keepC b15 k0
  replace k1 := keepC b15 k1
  replace m0 := keepC b15 m0
  replace m1 := keepC b15 m1
  replace c4 := keepC b15 c4
  have HB29 := Lib.hid (bchain HB28.out b15)
  have fl := fld0
  clear b15
  go_wp2_with fail
  go_ret
  exact ⟨rfl, HB29.out⟩
theorem commandRuns_walk (w : World) : Calls Try.prog 3 #[] w fun e w' => e = .returned (.bool true) ∧ Below w.heap.size w w' := cruns w
end Go.Proofs.Ytndfhnaafaijcaa
