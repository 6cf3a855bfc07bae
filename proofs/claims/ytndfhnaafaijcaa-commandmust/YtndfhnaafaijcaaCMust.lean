/- THE WALK OF CommandMust. (By gencmust.py.) -/
import Derived.Test.YtndfhnaafaijcaaMGn
import Derived.Test.YtndfhnaafaijcaaCMustC
import Derived.Test.YtndfhnaafaijcaaMGc
set_option linter.unusedVariables false
set_option maxRecDepth 100000
namespace Go.Proofs.Ytndfhnaafaijcaa
open Go.RowKit
open Mem Pk Cm

theorem few_n (c : Cm.T) : c.few.n ≤ 100000 := by
  show min c.n 30 ≤ 100000
  omega
theorem bare_kind (s : S) : s.bare.kind = if 1 ≤ s.kind ∧ s.kind ≤ 8 then s.kind else 0 := by
  by_cases h : 1 ≤ s.kind ∧ s.kind ≤ 8
  · rw [if_pos h]
    rcases kinds h.1 h.2 with e | e | e | e | e | e | e | e
    all_goals simp [S.bare, e]
  · rw [if_neg h]
    unfold S.bare
    rw [if_neg (by omega), if_neg (by omega), if_neg (by omega), if_neg (by omega), if_neg (by omega), if_neg (by omega), if_neg (by omega), if_neg (by omega)]
    rfl
theorem boxP (w : World) : ∃ W, w.alloc (.cells #[.string ⟨#[]⟩, .int .i64 0, .int .i64 0, .int .i64 0, .slice none 0 0] 49) = W ∧ Below w.heap.size w W ∧ PostAt W w.heap.size .empty 0 0 0 (.slice none 0 0) :=
  ⟨_, rfl, below_box (Below.refl _ _) _, by simp [go_sem]; rfl, by simp [go_sem], by simp [go_sem], by simp [go_sem], by simp [go_sem], fun o => by simp [go_sem]⟩
theorem boxW0 (w : World) : ∃ W, w.alloc (.cells #[.int .i64 0, .int .i64 0] 45) = W ∧ Below w.heap.size w W ∧ W.cell? ⟨w.heap.size, 0, none⟩ = some (.int .i64 0) ∧ W.cell? ⟨w.heap.size, 1, none⟩ = some (.int .i64 0) ∧ (∀ o, W.frozen? ⟨w.heap.size, o, none⟩ = false) ∧ W.setCell ⟨w.heap.size, 0, none⟩ (.int .i64 0) = W ∧ W.setCell ⟨w.heap.size, 1, none⟩ (.int .i64 0) = W :=
  ⟨_, rfl, below_box (Below.refl _ _) _, by simp [go_sem], by simp [go_sem], fun o => by simp [go_sem], by simp [go_sem], by simp [go_sem]⟩
theorem Ln.Ls.heap {u v : World} {ao : Option Addr} {n cap : Nat} {rs : List Ln.T} (h : Ln.Ls u ao n cap rs) (k : ∀ b off, ao = some ⟨b, off, none⟩ → v.heap[b]? = u.heap[b]?) : Ln.Ls v ao n cap rs := by
  refine ⟨h.len, h.fits, h.reach, h.nil, ?_, h.short⟩
  rcases h.seg with e | ⟨b, off, e, hc⟩
  · exact .inl e
  · refine .inr ⟨b, off, e, fun i hi => ?_⟩
    have hk : ∀ o, v.cell? ⟨b, o, none⟩ = u.cell? ⟨b, o, none⟩ := fun o => World.cell?_of_block (w := u) (k b off e)
    have c := hc i hi
    exact ⟨by rw [hk]; exact c.c0, by rw [hk]; exact c.c1, by rw [hk]; exact c.c2, by rw [hk]; exact c.c3⟩
theorem PostAt.heap {u v : World} {b : Nat} {series : ByteArray} {y m d : Int} {lv : Value} (h : PostAt u b series y m d lv) (k : v.heap[b]? = u.heap[b]?) : PostAt v b series y m d lv := by
  have hk : ∀ o, v.cell? ⟨b, o, none⟩ = u.cell? ⟨b, o, none⟩ := fun o => World.cell?_of_block (w := u) k
  exact ⟨by rw [hk]; exact h.c0, by rw [hk]; exact h.c1, by rw [hk]; exact h.c2, by rw [hk]; exact h.c3, by rw [hk]; exact h.c4, fun o => by rw [show v.frozen? ⟨b, o, none⟩ = u.frozen? ⟨b, o, none⟩ from World.frozen?_of_block (w := u) k]; exact h.fz o⟩
theorem PostAt.lt {u : World} {b : Nat} {series : ByteArray} {y m d : Int} {lv : Value} (h : PostAt u b series y m d lv) : b < u.heap.size := cell_lt h.c0
theorem TwoAt.upd {u v : World} {p q r : Nat} {a c : Int} {b : Bool} (h : TwoAt u p q a c b) (k : Upd u r v) (h1 : p ≠ r) (h2 : q ≠ r) : TwoAt v p q a c b := by
  have hp := cell_lt h.c0
  have hq := cell_lt h.c2
  exact ⟨by rw [k.cell _ _ hp h1]; exact h.c0, by rw [k.cell _ _ hp h1]; exact h.c1, by rw [k.cell _ _ hq h2]; exact h.c2, fun o => by rw [k.frozen _ _ hp]; exact h.f0 o, by rw [k.frozen _ _ hq]; exact h.f1⟩
theorem twoW_size (w : World) : (twoW w).heap.size = w.heap.size + 2 := by
  unfold twoW
  simp
set_option maxHeartbeats 8000000 in
theorem commandMust_walk (c : Cm.T) (ls : List Ln.T) (w : World) (hI : Cm.In w c ls) :
    Calls Try.prog 8 #[Cm.val c] w fun e w' => e = .returned (.bool true) ∧ Below w.heap.size w w' := by
  have HI := Lib.hid hI
  obtain ⟨L, hL⟩ : ∃ L, ls.take 30 = L := ⟨_, rfl⟩
  have HF : Hid (Cm.In w c.few L) := Lib.hid (hL ▸ hI.few)
  clear hL
  obtain ⟨W0, hW0, b0, hB0⟩ := Cm.boxV w c
  have HB0 := Lib.hid b0
  clear hI b0
  unfold Cm.val
  go_enter Try.func8, Try.ntmps8
  go_wp2_with (first | (with_reducible apply Cm.wplG_load (g := w.heap.size) (c := c); rfl; kernel_rfl; kernel_rfl; exact hB0))
  refine (few_any c ls W0 W0 (Below.refl _ _) (HI.out.below HB0.out)).mono ?_
  rintro e w1 ⟨rfl, b1⟩
  have hB1 := hB0.below b1
  obtain ⟨X, hX, hBX, hbX⟩ := Cm.rowW hB1 c.few
  have HBX := Lib.hid (hbX _ _ (bchain HB0.out b1) (Nat.le_refl _))
  have HIX := Lib.hid (HF.out.below HBX.out)
  clear hW0 hB0 b1 hbX
  go_wp2_with (first | (with_reducible apply Cm.wplG_load (g := w.heap.size) (c := c.few); rfl; kernel_rfl; kernel_rfl; exact hBX) | (with_reducible apply Cm.wplB_store (g := w.heap.size) (old := c) (c := c.few); rfl; rfl; kernel_rfl; kernel_rfl; exact hB1; rw [hX]))
  clear hX hB1
  refine (of_any c.few L X HIX.out (few_n c)).mono ?_
  rintro e w2 ⟨⟨v, rfl, hV⟩, b2⟩
  obtain ⟨W2, hst, d2, k2⟩ := boxS w2 v hV.is.oneCell
  have HB2 := Lib.hid (bchain (bchain HBX.out b2) d2)
  have HV := Lib.hid (hV.is.below d2)
  replace hBX := (hBX.below b2).below d2
  have HI2 := Lib.hid ((HIX.out.below b2).below d2)
  clear b2 d2 hV
  unfold Cm.cv
  go_wp2_with fail
  obtain ⟨W3, hW3, d3, hP3⟩ := boxP W2
  rw [hW3]
  have k3 := keepC d3 k2
  have HB3 := Lib.hid (bchain HB2.out d3)
  have HV3 := Lib.hid (HV.out.below d3)
  have hBX3 := hBX.below d3
  have HI3 := Lib.hid (HI2.out.below d3)
  have HP3 := Lib.hid hP3
  have hlx := hBX.lt
  clear hst hW3 hBX k2 d3 hP3
  have hck : c.few.kind = c.kind := rfl
  obtain ⟨s, hs⟩ : ∃ s, (c.few.sem L).bare = s := ⟨_, rfl⟩
  have hsk := bare_kind (c.few.sem L)
  rw [hs] at HV3 hsk
  replace hsk : s.kind = if 1 ≤ c.kind ∧ c.kind ≤ 8 then c.kind else 0 := hsk
  rw [hck]
  have hlt5 := HP3.out.lt
  have hlt2 := cell_lt k3
  have hw3 := HB3.out.size
  by_cases h4 : c.kind = 4
  · have hs4 : s.kind = 4 := by rw [hsk, h4]; rfl
    have HS : Hid (s.series = c.series ∧ s.y = c.y ∧ s.m = c.m ∧ s.d = c.d ∧ s.lines = L) := Lib.hid (by
      rw [← hs]
      have e : (c.few.sem L).kind = 4 := h4
      simp only [S.bare, e, reduceIte, Int.reduceEq]
      exact ⟨rfl, rfl, rfl, rfl, rfl⟩)
    have HK := Lib.hid hs4
    rw [h4, ofE_yes ⟨by omega, by omega⟩]
    have hcq := caught_keep 28 #[.pointer (some ⟨w2.heap.size, 0, none⟩), .pointer (some ⟨W2.heap.size, 0, none⟩)] W3 (fun u => MustQ (twoW W3) W2.heap.size s u) (fun _ _ => rfl) ((mustc_ok s v (twoW W3) w2.heap.size W2.heap.size (HV3.out.below (twoW_below W3)) HK.out (keepC (twoW_below W3) k3) (HP3.out.below (twoW_below W3))).mono (fun e u h => ⟨h.1, h.2, (twoW_at W3).upd h.2.upd (by omega) (by omega)⟩))
    refine hcq.mono ?_
    clear hcq
    rintro e w4 ⟨rfl, u, ⟨⟨la, lc, hPu, hLu, hNu⟩, hUu⟩, hbu, hku⟩
    have hb4 : Below w.heap.size w w4 := (hUu.below w (bchain HB3.out (twoW_below W3)) (by have := HB2.out.size; omega)).trans (hbu.mono hw3)
    have d4 : Below w4.heap.size w4 (w4.alloc (.cells #[.int .i64 0, .int .i64 0] 45)) := below_box (Below.refl _ _) _
    have HB4 := Lib.hid (bchain hb4 d4)
    have hBX4 : Cm.Blk w4 w.heap.size c.few := (hku w.heap.size (by omega) (by omega)).trans ((hBX3.below (twoW_below W3)).upd hUu (by omega))
    have hP4 := hPu.heap (hku _ (by omega) (by omega))
    have hl4 := hBX4.lt
    have hl5 := hP4.lt
    have HL4 := Lib.hid ((hLu.heap (fun b off e => by
      obtain ⟨g, h1, h2⟩ := hNu _ e
      cases h1
      rw [twoW_size] at h2
      exact hku b (by omega) (by omega))).below d4)
    have HI4 := Lib.hid (HF.out.below HB4.out)
    rw [HS.out.1, HS.out.2.1, HS.out.2.2.1, HS.out.2.2.2.1, HS.out.2.2.2.2] at hP4
    rw [HS.out.2.2.2.2] at HL4
    obtain ⟨p0, p1, p2, p3, p4, pf⟩ := hP4
    have q0 := hBX4.cell 0
    have q1 := hBX4.cell 1
    have q8 := hBX4.cell 8
    have q9 := hBX4.cell 9
    have q10 := hBX4.cell 10
    have q11 := hBX4.cell 11
    replace q0 : w4.cell? ⟨w.heap.size, 0, none⟩ = some (.int .i64 4) := by rw [← h4]; exact q0
    replace q1 : w4.cell? ⟨w.heap.size, 1, none⟩ = some (.string c.series) := q1
    replace q8 : w4.cell? ⟨w.heap.size, 8, none⟩ = some (.int .i64 c.y) := q8
    replace q9 : w4.cell? ⟨w.heap.size, 9, none⟩ = some (.int .i64 c.m) := q9
    replace q10 : w4.cell? ⟨w.heap.size, 10, none⟩ = some (.int .i64 c.d) := q10
    replace q11 : w4.cell? ⟨w.heap.size, 11, none⟩ = some (.slice c.few.ao c.few.n c.few.cap) := q11
    have e1 : (c.series.toList == c.series.toList) = true := beq_self_eq_true _
    have e2 : (c.y == c.y) = true := beq_self_eq_true _
    have e3 : (c.m == c.m) = true := beq_self_eq_true _
    have e4 : (c.d == c.d) = true := beq_self_eq_true _
    clear hPu hLu hNu hUu hbu hku hb4 d4 hBX3 hBX4 k3 hs hsk hs4 h4 hlt2 hlt5 hw3 hck hlx
    go_wp2_with fail
    refine (Ln.same_any L L la c.few.ao _ c.few.n lc c.few.cap _ _ (Below.refl _ _) HL4.out HI4.out.lines).mono ?_
    rintro e w5 ⟨rfl, b5⟩
    rw [Ln.sameB_self]
    have HB5 := Lib.hid (bchain HB4.out b5)
    clear b5
    go_wp2_with fail
    refine (cruns w5).mono ?_
    rintro e w6 ⟨rfl, b6⟩
    have HB6 := Lib.hid (bchain HB5.out b6)
    clear b6
    go_wp2_with fail
    go_ret
    exact ⟨rfl, HB6.out⟩
  · have hs4 : s.kind ≠ 4 := by
      rw [hsk]
      split
      · exact h4
      · omega
    have HK := Lib.hid hs4
    have hcq := caught_hit 28 4 s.kind #[.pointer (some ⟨w2.heap.size, 0, none⟩), .pointer (some ⟨W2.heap.size, 0, none⟩)] W3 (fun u => Below W3.heap.size W3 u) (fun _ _ => rfl) ((mustc_no s v (twoW W3) w2.heap.size W2.heap.size (HV3.out.below (twoW_below W3)) HK.out (keepC (twoW_below W3) k3)).mono (fun e u h => ⟨h.1, bchain (twoW_below W3) h.2, (twoW_at W3).below h.2⟩))
    refine hcq.mono ?_
    clear hcq
    rintro e w4 ⟨rfl, u, hu, hbu⟩
    have hb4 : Below W3.heap.size W3 w4 := hu.trans hbu
    have HB4 := Lib.hid (bchain HB3.out hb4)
    have hBX4 := hBX3.below hb4
    have q0 : w4.cell? ⟨w.heap.size, 0, none⟩ = some (.int .i64 c.kind) := hBX4.cell 0
    have hl4 := hBX4.lt
    by_cases hk8 : 1 ≤ c.kind ∧ c.kind ≤ 8
    · rw [if_pos hk8] at hsk
      rw [ofE_yes hk8]
      have f4 : (c.kind == 4) = false := beq_eq_false_iff_ne.2 h4
      have e1 : (c.kind == c.kind) = true := beq_self_eq_true _
      rw [hsk]
      clear hu hbu hb4 hBX3 hBX4 k3 hs hs4 h4 hlt2 hlt5 hw3 hck hk8 hsk
      go_wp2_with fail
      refine (cruns _).mono ?_
      rintro e w6 ⟨rfl, b6⟩
      have HB6 := Lib.hid (bchain (below_box HB4.out _) b6)
      clear b6
      go_wp2_with fail
      go_ret
      exact ⟨rfl, HB6.out⟩
    · rw [if_neg hk8] at hsk
      rw [ofE_no hk8]
      rw [hsk]
      clear hu hbu hb4 hBX3 hBX4 k3 hs hs4 h4 hlt2 hlt5 hw3 hck hk8 hsk
      go_wp2_with fail
      refine (cruns _).mono ?_
      rintro e w6 ⟨rfl, b6⟩
      have HB6 := Lib.hid (bchain (below_box HB4.out _) b6)
      clear b6
      go_wp2_with fail
      go_ret
      exact ⟨rfl, HB6.out⟩
end Go.Proofs.Ytndfhnaafaijcaa
