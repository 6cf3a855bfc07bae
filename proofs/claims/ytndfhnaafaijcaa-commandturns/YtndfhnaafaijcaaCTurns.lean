/- THE WALK OF CommandTurns. (By genturns.py.) -/
import Derived.Test.YtndfhnaafaijcaaMGn
import Derived.Test.YtndfhnaafaijcaaMGe
import Derived.Test.YtndfhnaafaijcaaMGs
import Derived.Test.YtndfhnaafaijcaaMGr
import Derived.Test.YtndfhnaafaijcaaMGc
set_option linter.unusedVariables false
set_option maxRecDepth 100000
namespace Go.Proofs.Ytndfhnaafaijcaa
open Go.RowKit
open Mem Pk Cm
open Go.Sort (grow)

theorem evT {a : Act} {t : Tmp} {v : Value} (h : a.tmps.toList[t]? = some v) : a.eval (.tmp t) = v := by
  show a.tmps.getD t undef = v
  rw [Array.getElem?_toList] at h
  simp [Array.getD_eq_getD_getElem?, h]
theorem few_n30 (c : Cm.T) : c.few.n ≤ 30 := by
  show min c.n 30 ≤ 30
  omega
theorem bare_kind (s : S) : s.bare.kind = if 1 ≤ s.kind ∧ s.kind ≤ 8 then s.kind else 0 := by
  by_cases h : 1 ≤ s.kind ∧ s.kind ≤ 8
  · rw [if_pos h]
    rcases kinds h.1 h.2 with e | e | e | e | e | e | e | e
    all_goals simp [S.bare, e]
  · rw [if_neg h]
    unfold S.bare
    rw [if_neg (by omega), if_neg (by omega), if_neg (by omega), if_neg (by omega), if_neg (by omega), if_neg (by omega), if_neg (by omega), if_neg (by omega)]
    rfl
theorem Cm.wpq_load {ops : Array Oper} {rest : List Oper} {o : Oper} {a : Act} {C : World → Prop} {Q : Act → Prop} {x : Operand} {g : Nat} {c : Cm.T} (ho : o.op = .load 37 x) (hw : Region.wanted o (yielded ops a.tmps) = true)
    (hx : a.eval x = .pointer (some ⟨g, 0, none⟩)) (hC : ∀ w, C w → Cm.Blk w g c) (h : wpQuiet Try.prog ops C Q rest (a.put o.dst (Cm.val c))) : wpQuiet Try.prog ops C Q (o :: rest) a := by
  refine wpQuiet_step fun K hK => ?_
  rw [if_pos hw]
  refine ⟨Cm.val c, fun u hu => ?_, hK _ h⟩
  unfold Oper.quietAt execOp
  simp only [ho, hx, Sem.run_bind, Sem.run_pure, Result.andThen_ok, Cm.load_row u g (Cm.rv c).toArray 37 (hC u hu) rfl]
  exact ⟨rfl, rfl⟩
/-- the mark of the room -/
def mk9 : Ln.T := ⟨.empty, .empty, 0, 9⟩
theorem mk9_short : Ln.Short mk9 := ⟨empty_size, empty_size, fit0, ⟨by show (-9223372036854775808 : Int) ≤ 9; omega, by show (9 : Int) ≤ 9223372036854775807; omega⟩⟩
def AnsT (f : FuncId) (args : Array Value) (u : World) (i : Nat) (os : Array Obj) (v : Value) : Prop :=
  Calls Try.prog f args (grow (redrawn u i) os) fun e w'' => e = .returned v ∧ ∃ p : Regrown, w'' = grow (redrawn u p.d) p.os
theorem cell_other (w : World) {g i j : Nat} (x : Value) (_hg : True) (h : ¬ i = j) : (w.setCell ⟨g, j, none⟩ x).cell? ⟨g, i, none⟩ = w.cell? ⟨g, i, none⟩ := by
  simp [go_sem]
/-- rows that may be written over -/
def Rws (w : World) (g n : Nat) : Prop := ∀ j, j < n → ∃ r : Ln.T, Ln.At w g (j * 4) r
theorem Rws.store {w : World} {g n k : Nat} (h : Rws w g n) (hk : k < n) (r : Ln.T) : Rws ((((w.setCell ⟨g, k * 4, none⟩ (.string r.text)).setCell ⟨g, k * 4 + 1, none⟩ (.string r.category)).setCell ⟨g, k * 4 + 2, none⟩ (.int .i64 r.count)).setCell ⟨g, k * 4 + 3, none⟩ (.int .i64 r.price)) g n := by
  intro j hj
  obtain ⟨q, c0, c1, c2, c3⟩ := h j hj
  obtain ⟨p, d0, d1, d2, d3⟩ := h k hk
  by_cases e : j = k
  · subst e
    exact ⟨r, by simp [go_sem, d0], by simp [go_sem, d1], by simp [go_sem, d2], by simp [go_sem, d3]⟩
  · have e0 : ∀ a b, a < 4 → b < 4 → ¬ (j * 4 + a = k * 4 + b) := by intro a b; omega
    have f0 : ∀ x y z t, ((((w.setCell ⟨g, k * 4, none⟩ x).setCell ⟨g, k * 4 + 1, none⟩ y).setCell ⟨g, k * 4 + 2, none⟩ z).setCell ⟨g, k * 4 + 3, none⟩ t).cell? ⟨g, j * 4, none⟩ = w.cell? ⟨g, j * 4, none⟩ := by
      intro x y z t
      have h0 := e0 0 0 (by omega) (by omega)
      have h1 := e0 0 1 (by omega) (by omega)
      have h2 := e0 0 2 (by omega) (by omega)
      have h3 := e0 0 3 (by omega) (by omega)
      simp only [Nat.add_zero] at h0 h1 h2 h3
      rw [cell_other _ _ trivial h3, cell_other _ _ trivial h2, cell_other _ _ trivial h1, cell_other _ _ trivial h0]
    have f1 : ∀ a, 1 ≤ a → a < 4 → ∀ x y z t, ((((w.setCell ⟨g, k * 4, none⟩ x).setCell ⟨g, k * 4 + 1, none⟩ y).setCell ⟨g, k * 4 + 2, none⟩ z).setCell ⟨g, k * 4 + 3, none⟩ t).cell? ⟨g, j * 4 + a, none⟩ = w.cell? ⟨g, j * 4 + a, none⟩ := by
      intro a ha1 ha x y z t
      have h0 := e0 a 0 ha (by omega)
      have h1 := e0 a 1 ha (by omega)
      have h2 := e0 a 2 ha (by omega)
      have h3 := e0 a 3 ha (by omega)
      simp only [Nat.add_zero] at h0
      rw [cell_other _ _ trivial h3, cell_other _ _ trivial h2, cell_other _ _ trivial h1, cell_other _ _ trivial h0]
    exact ⟨q, by rw [f0]; exact c0, by rw [f1 1 (by omega) (by omega)]; exact c1, by rw [f1 2 (by omega) (by omega)]; exact c2, by rw [f1 3 (by omega) (by omega)]; exact c3⟩
set_option maxHeartbeats 16000000 in
theorem commandTurns_walk (c : Cm.T) (ls : List Ln.T) (w : World) (hI : Cm.In w c ls) :
    Calls Try.prog 4 #[Cm.val c] w fun e w' => e = .returned (.bool true) ∧ Below w.heap.size w w' := by
  have HI := Lib.hid hI
  obtain ⟨L, hL⟩ : ∃ L, ls.take 30 = L := ⟨_, rfl⟩
  have HF : Hid (Cm.In w c.few L) := Lib.hid (hL ▸ hI.few)
  clear hL
  obtain ⟨W0, hW0, b0, hB0⟩ := Cm.boxV w c
  have HB0 := Lib.hid b0
  clear hI b0
  unfold Cm.val
  go_enter Try.func4, Try.ntmps4
  go_wp2_with (first | (with_reducible apply Cm.wplG_load (g := w.heap.size) (c := c); rfl; kernel_rfl; exact evT rfl; exact hB0))
  refine (few_any c ls W0 W0 (Below.refl _ _) (HI.out.below HB0.out)).mono ?_
  rintro e w1 ⟨rfl, b1⟩
  have hB1 := hB0.below b1
  obtain ⟨X, hX, hBX, hbX⟩ := Cm.rowW hB1 c.few
  have HBX := Lib.hid (hbX _ _ (bchain HB0.out b1) (Nat.le_refl _))
  have HIX := Lib.hid (HF.out.below HBX.out)
  have q11 : X.cell? ⟨w.heap.size, 11, none⟩ = some (.slice c.few.ao c.few.n c.few.cap) := hBX.cell 11
  clear hW0 hB0 b1 hbX
  go_wp2_with (first | (with_reducible apply Cm.wplG_load (g := w.heap.size) (c := c.few); rfl; kernel_rfl; exact evT rfl; exact hBX) | (with_reducible apply Cm.wplB_store (g := w.heap.size) (old := c) (c := c.few); rfl; rfl; kernel_rfl; kernel_rfl; exact hB1; rw [hX]))
  clear hX hB1
  refine (Ln.roomy L mk9 c.few.ao c.few.n c.few.cap X HIX.out.lines (by have := few_n30 c; omega)).mono ?_
  rintro e w2 ⟨rfl, hBk, b2⟩
  obtain ⟨G, hG⟩ : ∃ G, X.heap.size + 1 = G := ⟨_, rfl⟩
  rw [hG] at hBk ⊢
  obtain ⟨n, hn⟩ : ∃ n, c.few.n = n := ⟨_, rfl⟩
  have hn30 : n ≤ 30 := hn ▸ few_n30 c
  have HLen : Hid (n = L.length) := Lib.hid (hn ▸ HIX.out.lines.len)
  have HSh := Lib.hid HIX.out.lines.short
  rw [hn]
  replace hBX := hBX.below b2
  have HB2 := Lib.hid (bchain HBX.out b2)
  replace q11 : w2.cell? ⟨w.heap.size, 11, none⟩ = some (.slice c.few.ao n c.few.cap) := by rw [← hn]; exact hBX.cell 11
  obtain ⟨W3, hW3, d3, hB3⟩ := Cm.boxB w2 c.few
  have hlt3 := hB3.lt
  have hgl : G < w2.heap.size := by
    obtain ⟨hl, _⟩ := Array.getElem?_eq_some_iff.1 hBk
    exact hl
  have hw0 : w.heap.size < w2.heap.size := hBX.lt
  have hBX2 := hBX
  replace hBX := hBX.below d3
  replace hBk := hBk.below d3
  have r11 := hBX.cell 11
  replace r11 : W3.cell? ⟨w.heap.size, 11, none⟩ = some (.slice c.few.ao n c.few.cap) := by rw [← hn]; exact r11
  have s11 := hB3.cell 11
  have sf11 := hB3.fz 11
  change _ = some _ at s11
  have HB3 := Lib.hid (bchain HB2.out d3)
  obtain ⟨hsl, _⟩ := (Ln.full_ls hBk HLen.out (by omega) HSh.out mk9_short).to n (by omega)
  have hFit := HIX.out.lines.fits
  have hReach := HIX.out.lines.reach
  rw [hn] at hFit
  clear b2 d3
  obtain ⟨X4, hX4⟩ : ∃ X4, W3.setCell ⟨w2.heap.size, 11, none⟩ (.slice (some ⟨G, 0, none⟩) n (n + 80)) = X4 := ⟨_, rfl⟩
  have hU4 : Upd W3 w2.heap.size X4 := hX4 ▸ Upd.set _
  have hBX4 := hBX.upd hU4 (by omega)
  obtain ⟨c4, hc4⟩ : ∃ c4 : Cm.T, c4 = { c.few with ao := some ⟨G, 0, none⟩, cap := n + 80 } := ⟨_, rfl⟩
  have hB4 : Cm.Blk X4 w2.heap.size c4 := by
    rw [hc4, ← hX4]
    subst hn
    exact hB3.set 11 _ rfl
  have hBk4 : Ln.Block X4 G (L ++ List.replicate 80 mk9) := (hU4.block G (by omega) (by omega)).trans hBk
  have HB4 := Lib.hid (hU4.below w HB3.out (by omega))
  have HI4 := Lib.hid (HF.out.below HB4.out)
  have HL4 := Lib.hid ((Ln.full_ls hBk4 HLen.out (by omega) HSh.out mk9_short).to n (by omega)).2
  rw [List.take_left' HLen.out.symm] at HL4
  have HI4' : Hid (Cm.In X4 c4 L) := Lib.hid (by
    rw [hc4]
    exact { HI4.out with lines := by subst hn; exact HL4.out })
  have HSem4 : Hid (c4.sem L = c.few.sem L) := Lib.hid (by rw [hc4]; rfl)
  have HK4 : Hid (c4.kind = c.kind) := Lib.hid (by rw [hc4]; rfl)
  have HN4 : Hid (c4.n ≤ 100000) := Lib.hid (by rw [hc4]; show c.few.n ≤ 100000; omega)
  clear hc4
  have HBk4 := Lib.hid hBk4
  clear hU4 hBk hBk4 hBX HL4 hG
  go_wp2_with (first | (with_reducible apply Cm.wplG_load (g := w.heap.size) (c := c.few); rfl; kernel_rfl; exact evT rfl; exact hBX2) | (with_reducible apply Cm.wplG_load (g := w.heap.size) (c := c.few); rfl; kernel_rfl; exact evT rfl; exact hBX4) | (with_reducible apply Cm.wplG_load (g := w2.heap.size) (c := c4); rfl; kernel_rfl; exact evT rfl; exact hB4) | (with_reducible apply Cm.wplB_new (c := c.few); rfl; rfl; kernel_rfl; rfl; kernel_rfl; kernel_rfl; rw [hW3]))
  clear hW3 hX4 hB3 hBX2 r11 s11 sf11 hsl q11 hB4
  refine (of_any c4 L X4 HI4'.out HN4.out).mono ?_
  rintro e w5 ⟨⟨v, rfl, hV⟩, b5⟩
  rw [HK4.out]
  rw [HSem4.out] at hV
  obtain ⟨W5, hst, d5, k5⟩ := boxS w5 v hV.is.oneCell
  obtain ⟨s, hs⟩ : ∃ s, (c.few.sem L).bare = s := ⟨_, rfl⟩
  have hsk := bare_kind (c.few.sem L)
  have HV5 := Lib.hid (hV.is.below d5)
  rw [hs] at HV5 hsk
  replace hsk : s.kind = if 1 ≤ c.kind ∧ c.kind ≤ 8 then c.kind else 0 := hsk
  have HSk := Lib.hid hsk
  have hBX5 := (hBX4.below b5).below d5
  have HB5 := Lib.hid (bchain (bchain HB4.out b5) d5)
  have HBk5 := Lib.hid ((HBk4.out.below b5).below d5)
  have HI5 := Lib.hid (HF.out.below HB5.out)
  clear b5 d5 hV hBX4 hsk
  unfold Cm.cv
  go_wp2_with (first | (with_reducible apply Cm.wplG_load (g := w.heap.size) (c := c.few); rfl; kernel_rfl; exact evT rfl; exact hBX5))
  clear hst
  refine (bare_any c.few L W5 HI5.out (by omega)).mono ?_
  rintro e w6 ⟨⟨c6, rfl, hI6, hs6⟩, b6⟩
  rw [hs] at hI6 hs6
  obtain ⟨W6, hW6, d6, hB6⟩ := Cm.boxB w6 c6
  have k6 := keepC d6 (keepC b6 k5)
  have HV6 := Lib.hid ((HV5.out.below b6).below d6)
  have hBX6 := (hBX5.below b6).below d6
  have HB6 := Lib.hid (bchain (bchain HB5.out b6) d6)
  have HBk6 := Lib.hid ((HBk5.out.below b6).below d6)
  have HI6 := Lib.hid (hI6.below d6)
  have HS6 := Lib.hid hs6
  clear b6 d6 k5 hI6 hs6 hBX5 hs
  have hkf : c.few.kind = c.kind := rfl
  rw [hkf]
  clear hkf
  by_cases hk8 : 1 ≤ c.kind ∧ c.kind ≤ 8
  · have hd : decide (1 ≤ c.kind ∧ c.kind ≤ 8) = true := decide_eq_true hk8
    rw [hd, ofE_yes hk8]
    have HK : Hid (s.kind = c.kind) := Lib.hid (by rw [HSk.out, if_pos hk8])
    have HTr : Hid (decide (s.kind ≠ 0) = true) := Lib.hid (decide_eq_true (by rw [HK.out]; omega))
    clear hk8 hd
    go_wp2_with (first | (with_reducible apply Cm.wplB_new (c := c6); rfl; rfl; kernel_rfl; rfl; kernel_rfl; kernel_rfl; rw [hW6]))
    clear hW6
    refine (flat_any s v W6 HV6.out).mono ?_
    rintro e w9 ⟨⟨c9, rfl, hI9, hs9, hF9⟩, b9⟩
    rw [HTr.out]
    obtain ⟨W9, hW9, d9, hB9⟩ := Cm.boxB w9 c9
    have hbW : Below W6.heap.size W6 W9 := bchain b9 d9
    have k9 := keepC hbW k6
    have hB69 := hB6.below hbW
    have hBX9 := hBX6.below hbW
    have HV9 := Lib.hid (HV6.out.below hbW)
    have HI9 := Lib.hid (hI9.below d9)
    have HI69 := Lib.hid (HI6.out.below hbW)
    have HS9 := Lib.hid hs9
    have HF9 := Lib.hid (hF9.below d9)
    have HFl := Lib.hid hF9
    have HbW := Lib.hid hbW
    clear b9 d9 hI9 hs9 hF9 hbW
    go_wp2_with (first | (with_reducible apply Cm.wplB_new (c := c9); rfl; rfl; kernel_rfl; rfl; kernel_rfl; kernel_rfl; rw [hW9]))
    clear hW9
    have hC9 : ∀ x, (∃ p : Regrown, x = grow (redrawn W9 p.d) p.os) → Cm.Blk x w9.heap.size c9 := fun x ⟨p, e⟩ => by rw [e]; exact hB9.below (below_regrown W9 p.d p.os)
    have hC6 : ∀ x, (∃ p : Regrown, x = grow (redrawn W9 p.d) p.os) → Cm.Blk x w6.heap.size c6 := fun x ⟨p, e⟩ => by rw [e]; exact hB69.below (below_regrown W9 p.d p.os)
    have HC9 := Lib.hid hC9
    have HC6 := Lib.hid hC6
    clear hC9 hC6
    have hk0 := cell_regrown (show W9.cell? ⟨w.heap.size, 0, none⟩ = some (.int .i64 c.kind) from hBX9.cell 0)
    have hkv := cell_regrown k9
    have hCm : ∀ i os, AnsT 21 #[Cm.val c9, Cm.val c6] W9 i os (.bool true) := fun i os => Calls.regrown_of ((cmds_any c9 c6 s.lines s.lines _ _ (Below.refl _ _) (HI9.out.below (below_regrown W9 i os)) (HI69.out.below (below_regrown W9 i os))).mono (fun e w' h => by
      obtain ⟨⟨t, he, ht⟩, hb⟩ := h
      have : t = true := ht.2 (by rw [HS9.out, HS6.out])
      subst this
      exact ⟨he, hb⟩))
    have hKd : ∀ i os, AnsT 20 #[Cm.cv v] W9 i os (.int .i64 c.kind) := fun i os => Calls.regrown_of ((cmd_kind s v _ (HV9.out.below (below_regrown W9 i os))).mono (fun e w' h => ⟨by rw [h.1, HK.out], by rw [h.2]; exact below_box (Below.refl _ _) _⟩))
    have hne : (c.kind != c.kind) = false := bne_self_eq_false _
    unfold Cm.cv at hKd
    refine wp_region_quiet_below (by kernel_rfl) (by kernel_rfl) ?_
    repeat (first | (with_reducible apply Cm.wpq_load (g := w9.heap.size) (c := c9); rfl; kernel_rfl; exact evT rfl; exact HC9.out; simp only [Act.put, List.setIfInBounds_toArray, List.set_cons_zero, List.set_cons_succ]) | (with_reducible apply Cm.wpq_load (g := w6.heap.size) (c := c6); rfl; kernel_rfl; exact evT rfl; exact HC6.out; simp only [Act.put, List.setIfInBounds_toArray, List.set_cons_zero, List.set_cons_succ]) | go_big_quiet_step (first | (go_at_call 21; exact hCm _ _) | (go_at_call 20; exact hKd _ _)) | quiet_step (first | (go_at_call 21; exact hCm _ _) | (go_at_call 20; exact hKd _ _)))
    refine wpQuiet_nil ?_
    intro _ hw'
    obtain ⟨⟨dq, osq⟩, hw''⟩ := hw'
    subst hw''
    have bq := below_regrown W9 dq osq
    have HbX := Lib.hid (bchain HbW.out bq)
    have HBx9 := Lib.hid (hB9.below bq)
    have HF9x := Lib.hid (HF9.out.below bq)
    have hgw : ∀ ad, c9.ao = some ad → ∃ g, ad = ⟨g, 0, none⟩ ∧ W6.heap.size ≤ g ∧ g < w9.heap.size := fun ad e => by
      obtain ⟨g, h1, h2, h3, _⟩ := HFl.out.new ad e
      exact ⟨g, h1, h2, h3⟩
    have HGw := Lib.hid hgw
    have HLn9 := Lib.hid HF9x.out.ls
    have HN9 : Hid (c9.n ≤ c9.cap ∧ c9.cap ≤ 9223372036854775807) := Lib.hid ⟨HLn9.out.fits, HLn9.out.reach⟩
    have hb6lt := hB6.lt
    clear hgw bq hCm hKd hne hk0 hkv hB9 hB69 hBX9 k9
    generalize grow (redrawn W9 dq) osq = x at *
    obtain ⟨n9, hn9⟩ : ∃ n9, c9.n = n9 := ⟨_, rfl⟩
    obtain ⟨p9, hp9⟩ : ∃ p9, c9.cap = p9 := ⟨_, rfl⟩
    rw [hn9, hp9] at HN9
    have HRw : Hid (∀ g, c9.ao = some ⟨g, 0, none⟩ → Rws x g n9 ∧ ∀ o, x.frozen? ⟨g, o, none⟩ = false) := Lib.hid (fun g e => by
      refine ⟨fun j hj => ?_, ?_⟩
      · have hls := HLn9.out
        rw [e] at hls
        have := hls.row j (by rw [← hls.len, hn9]; exact hj)
        rw [Nat.zero_add] at this
        exact ⟨_, this⟩
      · obtain ⟨g', h1, _, _, h4⟩ := HF9x.out.new _ e
        cases h1
        exact h4)
    have HAt : Hid (0 < n9 → ∃ g, c9.ao = some ⟨g, 0, none⟩) := Lib.hid (fun h => by
      obtain ⟨b, off, e⟩ := HLn9.out.at (by rw [hn9]; exact h)
      obtain ⟨g, h1, _⟩ := HGw.out _ e
      exact ⟨g, by rw [e, h1]⟩)
    have HCell : Hid (∀ u, Cm.Blk u w9.heap.size c9 → u.cell? ⟨w9.heap.size, 11, none⟩ = some (.slice c9.ao n9 p9)) := Lib.hid (fun u h => by rw [← hn9, ← hp9]; exact h.cell 11)
    clear hn9 hp9
    go_wp2_with fail
    go_loopw [11] (fun i wr => ∃ k : Nat, k ≤ n9 ∧ i = .int .i64 k ∧ Hid (Below W6.heap.size W6 wr) ∧ Hid (Cm.Blk wr w9.heap.size c9) ∧ Hid (∀ g, c9.ao = some ⟨g, 0, none⟩ → Rws wr g n9 ∧ ∀ o, wr.frozen? ⟨g, o, none⟩ = false)) (fun i _ => n9 - (intOf i).toNat)
    case atStart => exact ⟨0, by omega, rfl, HbX, HBx9, HRw⟩
    case round =>
      obtain ⟨k, hk, rfl, HbR, HBR, HRR⟩ := hrel
      have q11 := HCell.out wr HBR.out
      have hfit9 := HN9.out.1
      have hcap9 := HN9.out.2
      by_cases hlt : k < n9
      · obtain ⟨g, hao⟩ := HAt.out (by omega)
        rw [hao] at q11
        obtain ⟨r, g0, g1, g2, g3⟩ := (HRR.out g hao).1 k hlt
        have hfz := (HRR.out g hao).2
        have HAo := Lib.hid hao
        clear hao
        go_wp2_with fail
        go_roundw
        case rel =>
          obtain ⟨g', h1, h2, h3⟩ := HGw.out _ HAo.out
          cases h1
          refine ⟨k + 1, by omega, by go_num, Lib.hid (Ln.below_store HbR.out h2 k _ _ _ _), Lib.hid ((((HBR.out.other _ (by omega)).other _ (by omega)).other _ (by omega)).other _ (by omega)), Lib.hid (fun q hq => ?_)⟩
          rw [HAo.out] at hq
          cases hq
          exact ⟨Rws.store (HRR.out g HAo.out).1 hlt ⟨.empty, .empty, 0, 0⟩, fun o => by simp [go_sem, hfz]⟩
        case measure => simp [intOf]; omega
      · obtain rfl : k = n9 := by omega
        have k12 := keepC HbR.out k6
        go_wp2_with fail
        refine (flat_any s v wr (HV6.out.below HbR.out)).mono ?_
        rintro e w12 ⟨⟨c12, rfl, hI12, hs12, _⟩, b12⟩
        rw [HTr.out]
        obtain ⟨W12, hW12, d12, hB12⟩ := Cm.boxB w12 c12
        have hb12 : Below W6.heap.size W6 W12 := bchain (bchain HbR.out b12) d12
        have hB612 := hB6.below hb12
        have hBX12 := hBX6.below hb12
        have HI12 := Lib.hid (hI12.below d12)
        have HI612 := Lib.hid (HI6.out.below hb12)
        have HS12 := Lib.hid hs12
        have HBk12 := Lib.hid (HBk6.out.below hb12)
        have HB12 := Lib.hid (bchain HB6.out hb12)
        have HIc := Lib.hid (HF.out.below HB12.out)
        clear b12 d12 hI12 hs12 hb12 q11 k12
        go_wp2_with (first | (with_reducible apply Cm.wplG_load (g := w12.heap.size) (c := c12); rfl; kernel_rfl; exact evT rfl; exact hB12) | (with_reducible apply Cm.wplG_load (g := w6.heap.size) (c := c6); rfl; kernel_rfl; exact evT rfl; exact hB612) | (with_reducible apply Cm.wplB_new (c := c12); rfl; rfl; kernel_rfl; rfl; kernel_rfl; kernel_rfl; rw [hW12]))
        clear hW12
        refine (cmds_any c12 c6 s.lines s.lines W12 W12 (Below.refl _ _) HI12.out HI612.out).mono ?_
        rintro e w13 ⟨⟨t13, rfl, ht13⟩, b13⟩
        have e13 : t13 = true := ht13.2 (by rw [HS12.out, HS6.out])
        subst e13
        have HB13 := Lib.hid (bchain HB12.out b13)
        have p11 : w13.cell? ⟨w.heap.size, 11, none⟩ = some (.slice c.few.ao n c.few.cap) := by rw [← hn]; exact (hBX12.below b13).cell 11
        have HBk13 := Lib.hid (HBk12.out.below b13)
        have HLc : Hid (Ln.Ls w13 c.few.ao n c.few.cap L) := Lib.hid (by rw [← hn]; exact (HIc.out.below b13).lines)
        clear ht13 b13 hB612 hBX12 hB12
        go_wp2_with fail
        refine (Ln.intact L mk9 c.few.ao G n c.few.cap w13 w13 (Below.refl _ _) HLc.out HBk13.out mk9_short (by omega)).mono ?_
        rintro e w14 ⟨rfl, b14⟩
        have HB14 := Lib.hid (bchain HB13.out b14)
        clear b14 p11
        go_wp2_with fail
        refine (cruns w14).mono ?_
        rintro e w15 ⟨rfl, b15⟩
        have HB15 := Lib.hid (bchain HB14.out b15)
        clear b15
        go_wp2_with fail
        go_ret
        exact ⟨rfl, HB15.out⟩
  · have hd : decide (1 ≤ c.kind ∧ c.kind ≤ 8) = false := decide_eq_false hk8
    rw [hd, ofE_no hk8]
    have HK : Hid (s.kind = 0) := Lib.hid (by rw [HSk.out, if_neg hk8])
    clear hk8 hd
    go_wp2_with (first | (with_reducible apply Cm.wplB_new (c := c6); rfl; rfl; kernel_rfl; rfl; kernel_rfl; kernel_rfl; rw [hW6]))
    clear hW6
    refine (cmd_kind s v W6 HV6.out).mono ?_
    rintro e w9 ⟨rfl, hw9⟩
    rw [HK.out]
    have HB9 : Hid (Below w.heap.size w w9) := Lib.hid (by rw [hw9]; exact below_box HB6.out _)
    clear hw9
    go_wp2_with fail
    refine (cruns w9).mono ?_
    rintro e w10 ⟨rfl, b10⟩
    have HB10 := Lib.hid (bchain HB9.out b10)
    clear b10
    go_wp2_with fail
    go_ret
    exact ⟨rfl, HB10.out⟩
end Go.Proofs.Ytndfhnaafaijcaa
