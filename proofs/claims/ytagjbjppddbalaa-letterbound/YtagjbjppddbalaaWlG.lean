/- CONTRACTS OF PACKAGE wal: Right. -/
import Derived.Test.YtagjbjppddbalaaWlF
import Derived.Test.YtagjbjppddbalaaEtA
import Derived.Test.YtagjbjppddbalaaHdM
set_option maxRecDepth 100000
set_option linter.unusedVariables false
namespace Go.Proofs.Ytagjbjppddbalaa
open Go.RowKit
open Mem

/-- a Hard's log is another one -/
def Hd.with (r : Hd.T) (s : Sl) : Hd.T := ⟨r.term, r.vote, r.base, r.bt, r.mem, r.snap, s⟩
theorem Hd.block_box (w : World) (r : Hd.T) : Hd.Block (Hd.box w r) w.heap.size [r] := heap_alloc_new w _
theorem Hd.Block.log {w : World} {g : Nat} {r : Hd.T} (h : Hd.Block w g [r]) (s : Sl) : Hd.Block (w.setCell ⟨g, 6, none⟩ (.slice s.ao s.n s.cap)) g [Hd.with r s] := (heap_setCell_same w g 6 _ _ _ h).trans rfl
theorem Hd.Block.cells {w : World} {g : Nat} {r : Hd.T} (h : Hd.Block w g [r]) : Hd.C w g r := by
  obtain ⟨c0, c1, c2, c3, c4, c5, c6⟩ := h.row 0 (by simp)
  exact ⟨c0, c1, c2, c3, c4, c5, c6⟩
theorem Hd.cell_same {w u : World} {b : Nat} (h : u.heap[b]? = w.heap[b]?) (o : Nat) : u.cell? ⟨b, o, none⟩ = w.cell? ⟨b, o, none⟩ := by
  simp [World.cell?, h]
theorem Wl.headed_base {h : Wl.H} (k : Wl.headed h = true) : 0 ≤ h.base ∧ h.base ≤ 1099511627776 := by
  unfold Wl.headed Wl.within Wl.top at k
  simp only [Bool.and_eq_true, decide_eq_true_eq] at k
  exact k.2.2.1
theorem Wl.more_step (h : Wl.H) (l : List Et.T) (k : Nat) (hk : k < l.length) : Wl.more (h.with (l.take k)) (l.drop k) = (Wl.fits (h.with (l.take k)) l[k] && Wl.more (h.with (l.take (k + 1))) (l.drop (k + 1))) := by
  rw [List.drop_eq_getElem_cons hk, Wl.more, List.take_succ_eq_append_getElem hk]
  rfl
set_option maxHeartbeats 4000000 in
theorem wl_right (r : Hd.T) (l : List Et.T) (w : World) (hl : Et.Ls w r.log.ao r.log.n r.log.cap l) (hz : r.snap.size ≤ 140737488355328) :
    Calls Try.prog 52 #[Hd.val r] w fun e w' => e = .returned (.bool (Wl.right (Hd.h r l))) ∧ Below w.heap.size w w' := by
  obtain ⟨⟨ao, n, cap⟩, hlog⟩ : ∃ s, r.log = s := ⟨_, rfl⟩
  rw [hlog] at hl
  dsimp only at hl
  have HL := Lib.hid hl
  have hr1 := hl.fits
  have hr2 := hl.reach
  have HN := Lib.hid hl.len
  obtain ⟨W, hW, hbW, hC⟩ := Hd.boxed1 w r
  have HBW := Lib.hid hbW
  have HBk : Hid (Hd.Block W w.heap.size [r]) := Lib.hid (hW ▸ Hd.block_box w r)
  have HR : Hid (Wl.right (Hd.h r l) = (Wl.headed (Hd.h r l) && ((((r.snap.toList == []) == (r.base == 0)) && decide ((r.snap.size : Int) ≤ 65536)) && Wl.more ((Hd.h r l).with []) l))) := Lib.hid (by
    unfold Wl.right Wl.snapOk
    have e3 : decide (r.snap.size = 0) = (r.snap.toList == []) := by
      have := txt_len r.snap
      rw [tl, Bool.eq_iff_iff, decide_eq_true_iff, beq_iff_eq, ← List.length_eq_zero_iff, this]
    have e2 : decide (r.snap.size ≤ 65536) = decide ((r.snap.size : Int) ≤ 65536) := by rw [decide_eq_decide]; omega
    rw [show (Hd.h r l).snap = r.snap from rfl, e3, e2]
    rfl)
  have HD : Hid (∀ s, Hd.h (Hd.with r s) = Hd.h r) := Lib.hid fun s => rfl
  have cH := wl_headed r l W
  unfold Hd.val at cH
  unfold Hd.C at hC
  rw [hlog] at cH hW hC
  dsimp only at cH hW hC
  obtain ⟨a0, a1, a2, a3, a4, a5, a6⟩ := hC
  clear hl hbW
  unfold Hd.val
  rw [hlog]
  dsimp only
  have HLg := Lib.hid hlog
  clear hlog
  cases q1 : Wl.headed (Hd.h r l)
  · rw [q1] at cH
    rw [q1, Bool.false_and] at HR
    go_enter Try.func52, Try.ntmps52
    go_wp2_with (go_at_call 59; refine cH.mono ?_; rintro e w1 ⟨rfl, b1⟩; have HB1 := Lib.hid (bchain HBW.out b1); clear b1 a0 a1 a2 a3 a4 a5 a6 cH)
    go_ret
    exact ⟨ret_bool HR.out.symm, HB1.out⟩
  have HQ := Lib.hid (Wl.headed_base q1)
  rw [q1] at cH
  rw [q1, Bool.true_and] at HR
  cases q2 : ((r.snap.toList == []) == (r.base == 0))
  · rw [q2, Bool.false_and, Bool.false_and] at HR
    have p2 : (r.base == 0) = !(r.snap.toList == []) := by
      revert q2
      cases (r.snap.toList == []) <;> cases (r.base == 0) <;> decide
    clear q2
    go_enter Try.func52, Try.ntmps52
    cases p1 : (r.snap.toList == [])
    · rw [p1] at p2
      try rw [Bool.not_false] at p2
      try rw [Bool.not_true] at p2
      go_wp2_with (go_at_call 59; refine cH.mono ?_; rintro e w1 ⟨rfl, b1⟩; have HB1 := Lib.hid (bchain HBW.out b1); have HK1 := Lib.hid (HBk.out.below b1); have a5' := ((bcell b1).1 _ _ (cell_lt a5)).trans a5; have a2' := ((bcell b1).1 _ _ (cell_lt a2)).trans a2; have a6' := ((bcell b1).1 _ _ (cell_lt a6)).trans a6; clear b1 a0 a1 a2 a3 a4 a5 a6 cH)
      go_ret
      exact ⟨ret_bool HR.out.symm, HB1.out⟩
    · rw [p1] at p2
      try rw [Bool.not_false] at p2
      try rw [Bool.not_true] at p2
      go_wp2_with (go_at_call 59; refine cH.mono ?_; rintro e w1 ⟨rfl, b1⟩; have HB1 := Lib.hid (bchain HBW.out b1); have HK1 := Lib.hid (HBk.out.below b1); have a5' := ((bcell b1).1 _ _ (cell_lt a5)).trans a5; have a2' := ((bcell b1).1 _ _ (cell_lt a2)).trans a2; have a6' := ((bcell b1).1 _ _ (cell_lt a6)).trans a6; clear b1 a0 a1 a2 a3 a4 a5 a6 cH)
      go_ret
      exact ⟨ret_bool HR.out.symm, HB1.out⟩
  rw [q2, Bool.true_and] at HR
  by_cases h3 : (65536 : Int) < (r.snap.size : Int)
  · rw [decide_eq_false (by omega), Bool.false_and] at HR
    have p2 : (r.base == 0) = (r.snap.toList == []) := by
      revert q2
      cases (r.snap.toList == []) <;> cases (r.base == 0) <;> decide
    clear q2
    go_enter Try.func52, Try.ntmps52
    cases p1 : (r.snap.toList == [])
    · rw [p1] at p2
      try rw [Bool.not_false] at p2
      try rw [Bool.not_true] at p2
      go_wp2_with (go_at_call 59; refine cH.mono ?_; rintro e w1 ⟨rfl, b1⟩; have HB1 := Lib.hid (bchain HBW.out b1); have HK1 := Lib.hid (HBk.out.below b1); have a5' := ((bcell b1).1 _ _ (cell_lt a5)).trans a5; have a2' := ((bcell b1).1 _ _ (cell_lt a2)).trans a2; have a6' := ((bcell b1).1 _ _ (cell_lt a6)).trans a6; clear b1 a0 a1 a2 a3 a4 a5 a6 cH)
      go_ret
      exact ⟨ret_bool HR.out.symm, HB1.out⟩
    · rw [p1] at p2
      try rw [Bool.not_false] at p2
      try rw [Bool.not_true] at p2
      go_wp2_with (go_at_call 59; refine cH.mono ?_; rintro e w1 ⟨rfl, b1⟩; have HB1 := Lib.hid (bchain HBW.out b1); have HK1 := Lib.hid (HBk.out.below b1); have a5' := ((bcell b1).1 _ _ (cell_lt a5)).trans a5; have a2' := ((bcell b1).1 _ _ (cell_lt a2)).trans a2; have a6' := ((bcell b1).1 _ _ (cell_lt a6)).trans a6; clear b1 a0 a1 a2 a3 a4 a5 a6 cH)
      go_ret
      exact ⟨ret_bool HR.out.symm, HB1.out⟩
  rw [decide_eq_true (by omega), Bool.true_and] at HR
  have p2 : (r.base == 0) = (r.snap.toList == []) := by
    revert q2
    cases (r.snap.toList == []) <;> cases (r.base == 0) <;> decide
  clear q2
  go_enter Try.func52, Try.ntmps52
  cases p1 : (r.snap.toList == [])
  · rw [p1] at p2
    try rw [Bool.not_false] at p2
    try rw [Bool.not_true] at p2
    go_wp2_with (go_at_call 59; refine cH.mono ?_; rintro e w1 ⟨rfl, b1⟩; have HB1 := Lib.hid (bchain HBW.out b1); have HK1 := Lib.hid (HBk.out.below b1); have a5' := ((bcell b1).1 _ _ (cell_lt a5)).trans a5; have a2' := ((bcell b1).1 _ _ (cell_lt a2)).trans a2; have a6' := ((bcell b1).1 _ _ (cell_lt a6)).trans a6; clear b1 a0 a1 a2 a3 a4 a5 a6 cH)
    clear hW HBk HBW p1 p2 h3 q1 a5' a2' a6'
    go_loopw [5, 28] (fun _ i wr => ∃ k : Nat, k ≤ n ∧ i = .int .i64 k ∧ Hid (Below w.heap.size w wr) ∧ (∃ s, Hid (Hd.Block wr w.heap.size [Hd.with r s])) ∧ Hid (Wl.more ((Hd.h r l).with (l.take k)) (l.drop k) = Wl.right (Hd.h r l))) (fun _ i _ => n - (intOf i).toNat)
    case atStart => exact ⟨0, by omega, rfl, HB1, ⟨⟨ao, n, cap⟩, HLg.out ▸ HK1⟩, Lib.hid HR.out.symm⟩
    case round =>
      clear HB1 HK1 HR
      rename World => wz
      obtain ⟨k, hk, rfl, HB, ⟨s, HK⟩, HM⟩ := hrel
      by_cases hlt : k < n
      · obtain ⟨b, off, rfl⟩ := HL.out.at (by omega)
        have hkl : k < l.length := HN.out ▸ hlt
        have hl' := HL.out.below HB.out
        have hrow := hl'.row k hkl
        have hxs := HL.out.short _ (List.getElem_mem hkl)
        have HSt := Lib.hid (Wl.more_step (Hd.h r l) l k hkl)
        obtain ⟨x, hx⟩ : ∃ x, l[k] = x := ⟨_, rfl⟩
        rw [hx] at hrow HSt hxs
        obtain ⟨g0, g1, g2⟩ := hrow
        obtain ⟨W1, hW1, hbW1, hE⟩ := Et.boxed1 wz x
        have HB1 := Lib.hid (bchain HB.out hbW1)
        have HK1 := Lib.hid (HK.out.below hbW1)
        have f6 := HK1.out.frozen 6
        obtain ⟨i0, i1, i2, i3, i4, i5, i6⟩ := HK1.out.cells
        obtain ⟨hsl, hl2⟩ := hl'.to k hk
        obtain ⟨W2, hW2⟩ : ∃ W2, W1.setCell ⟨w.heap.size, 6, none⟩ (.slice (some ⟨b, off, none⟩) k cap) = W2 := ⟨_, rfl⟩
        have hu2 : UpdQ (fun b => b = w.heap.size) W1 W2 := hW2 ▸ UpdQ.set (Q := fun b => b = w.heap.size) W1 rfl 6 _
        have HK2 : Hid (Hd.Block W2 w.heap.size [Hd.with r ⟨some ⟨b, off, none⟩, k, cap⟩]) := Lib.hid (hW2 ▸ HK1.out.log ⟨some ⟨b, off, none⟩, k, cap⟩)
        have hB2 : Below w.heap.size w W2 := hW2 ▸ bset HB1.out (Nat.le_refl _) 6 _
        have HB2 := Lib.hid hB2
        have hE2 : Et.C W2 wz.heap.size x := by
          have hlz := HK.out.lt
          obtain ⟨z0, z1, z2⟩ := hE
          have hb := hu2.block wz.heap.size (cell_lt z0) (by omega)
          exact ⟨(Hd.cell_same hb _).trans z0, (Hd.cell_same hb _).trans z1, (Hd.cell_same hb _).trans z2⟩
        obtain ⟨j0, j1, j2, j3, j4, j5, j6⟩ := HK2.out.cells
        unfold Et.C at hE2
        obtain ⟨z0, z1, z2⟩ := hE2
        have hL2 : Et.Ls W2 (some ⟨b, off, none⟩) k cap (l.take k) := by
          have := (HL.out.to k hk).2.below hB2
          exact this
        have cF := wl_fits (Hd.with r ⟨some ⟨b, off, none⟩, k, cap⟩) (l.take k) x W2 hL2 ⟨by have := HQ.out.1; exact (by show -1000000000000000000 ≤ (Hd.h r l).base; omega), by have := HQ.out.2; exact (by show (Hd.h r l).base ≤ 1000000000000000000; omega)⟩ hxs
        rw [show Hd.h (Hd.with r ⟨some ⟨b, off, none⟩, k, cap⟩) (l.take k) = (Hd.h r l).with (l.take k) from rfl] at cF
        unfold Hd.val Et.val Hd.with at cF
        simp only at cF j0 j1 j2 j3 j4 j5 j6
        clear hl' hbW1 hE hl2 hL2 hu2 hB2 HK hx
        cases q9 : Wl.fits ((Hd.h r l).with (l.take k)) x
        · rw [q9] at cF
          have HR9 : Hid (Wl.right (Hd.h r l) = false) := Lib.hid (by rw [← HM.out, HSt.out, q9, Bool.false_and])
          clear HSt HM q9
          go_wp2_with (go_at_call 60; refine cF.mono ?_; rintro e w3 ⟨rfl, b3⟩; have HB3 := Lib.hid (bchain HB2.out b3); clear b3 cF)
          go_ret
          exact ⟨ret_bool HR9.out.symm, HB3.out⟩
        · rw [q9] at cF
          have HM9 : Hid (Wl.more ((Hd.h r l).with (l.take (k + 1))) (l.drop (k + 1)) = Wl.right (Hd.h r l)) := Lib.hid (by rw [← HM.out, HSt.out, q9, Bool.true_and])
          clear HSt HM q9
          go_wp2_with (go_at_call 60; refine cF.mono ?_; rintro e w3 ⟨rfl, b3⟩; have HB3 := Lib.hid (bchain HB2.out b3); have HK3 := Lib.hid (HK2.out.below b3); clear b3 cF)
          go_roundw
          case rel => exact ⟨k + 1, by omega, by go_num, HB3, ⟨_, HK3⟩, HM9⟩
          case measure => simp [intOf]; omega
      · have HR9 : Hid (Wl.right (Hd.h r l) = true) := Lib.hid (by
          rw [← HM.out, List.drop_eq_nil_of_le (by have := HN.out; omega)]
          rfl)
        clear HM HK
        go_wp2_with fail
        go_ret
        exact ⟨ret_bool HR9.out.symm, HB.out⟩
  · rw [p1] at p2
    try rw [Bool.not_false] at p2
    try rw [Bool.not_true] at p2
    go_wp2_with (go_at_call 59; refine cH.mono ?_; rintro e w1 ⟨rfl, b1⟩; have HB1 := Lib.hid (bchain HBW.out b1); have HK1 := Lib.hid (HBk.out.below b1); have a5' := ((bcell b1).1 _ _ (cell_lt a5)).trans a5; have a2' := ((bcell b1).1 _ _ (cell_lt a2)).trans a2; have a6' := ((bcell b1).1 _ _ (cell_lt a6)).trans a6; clear b1 a0 a1 a2 a3 a4 a5 a6 cH)
    clear hW HBk HBW p1 p2 h3 q1 a5' a2' a6'
    go_loopw [5, 28] (fun _ i wr => ∃ k : Nat, k ≤ n ∧ i = .int .i64 k ∧ Hid (Below w.heap.size w wr) ∧ (∃ s, Hid (Hd.Block wr w.heap.size [Hd.with r s])) ∧ Hid (Wl.more ((Hd.h r l).with (l.take k)) (l.drop k) = Wl.right (Hd.h r l))) (fun _ i _ => n - (intOf i).toNat)
    case atStart => exact ⟨0, by omega, rfl, HB1, ⟨⟨ao, n, cap⟩, HLg.out ▸ HK1⟩, Lib.hid HR.out.symm⟩
    case round =>
      clear HB1 HK1 HR
      rename World => wz
      obtain ⟨k, hk, rfl, HB, ⟨s, HK⟩, HM⟩ := hrel
      by_cases hlt : k < n
      · obtain ⟨b, off, rfl⟩ := HL.out.at (by omega)
        have hkl : k < l.length := HN.out ▸ hlt
        have hl' := HL.out.below HB.out
        have hrow := hl'.row k hkl
        have hxs := HL.out.short _ (List.getElem_mem hkl)
        have HSt := Lib.hid (Wl.more_step (Hd.h r l) l k hkl)
        obtain ⟨x, hx⟩ : ∃ x, l[k] = x := ⟨_, rfl⟩
        rw [hx] at hrow HSt hxs
        obtain ⟨g0, g1, g2⟩ := hrow
        obtain ⟨W1, hW1, hbW1, hE⟩ := Et.boxed1 wz x
        have HB1 := Lib.hid (bchain HB.out hbW1)
        have HK1 := Lib.hid (HK.out.below hbW1)
        have f6 := HK1.out.frozen 6
        obtain ⟨i0, i1, i2, i3, i4, i5, i6⟩ := HK1.out.cells
        obtain ⟨hsl, hl2⟩ := hl'.to k hk
        obtain ⟨W2, hW2⟩ : ∃ W2, W1.setCell ⟨w.heap.size, 6, none⟩ (.slice (some ⟨b, off, none⟩) k cap) = W2 := ⟨_, rfl⟩
        have hu2 : UpdQ (fun b => b = w.heap.size) W1 W2 := hW2 ▸ UpdQ.set (Q := fun b => b = w.heap.size) W1 rfl 6 _
        have HK2 : Hid (Hd.Block W2 w.heap.size [Hd.with r ⟨some ⟨b, off, none⟩, k, cap⟩]) := Lib.hid (hW2 ▸ HK1.out.log ⟨some ⟨b, off, none⟩, k, cap⟩)
        have hB2 : Below w.heap.size w W2 := hW2 ▸ bset HB1.out (Nat.le_refl _) 6 _
        have HB2 := Lib.hid hB2
        have hE2 : Et.C W2 wz.heap.size x := by
          have hlz := HK.out.lt
          obtain ⟨z0, z1, z2⟩ := hE
          have hb := hu2.block wz.heap.size (cell_lt z0) (by omega)
          exact ⟨(Hd.cell_same hb _).trans z0, (Hd.cell_same hb _).trans z1, (Hd.cell_same hb _).trans z2⟩
        obtain ⟨j0, j1, j2, j3, j4, j5, j6⟩ := HK2.out.cells
        unfold Et.C at hE2
        obtain ⟨z0, z1, z2⟩ := hE2
        have hL2 : Et.Ls W2 (some ⟨b, off, none⟩) k cap (l.take k) := by
          have := (HL.out.to k hk).2.below hB2
          exact this
        have cF := wl_fits (Hd.with r ⟨some ⟨b, off, none⟩, k, cap⟩) (l.take k) x W2 hL2 ⟨by have := HQ.out.1; exact (by show -1000000000000000000 ≤ (Hd.h r l).base; omega), by have := HQ.out.2; exact (by show (Hd.h r l).base ≤ 1000000000000000000; omega)⟩ hxs
        rw [show Hd.h (Hd.with r ⟨some ⟨b, off, none⟩, k, cap⟩) (l.take k) = (Hd.h r l).with (l.take k) from rfl] at cF
        unfold Hd.val Et.val Hd.with at cF
        simp only at cF j0 j1 j2 j3 j4 j5 j6
        clear hl' hbW1 hE hl2 hL2 hu2 hB2 HK hx
        cases q9 : Wl.fits ((Hd.h r l).with (l.take k)) x
        · rw [q9] at cF
          have HR9 : Hid (Wl.right (Hd.h r l) = false) := Lib.hid (by rw [← HM.out, HSt.out, q9, Bool.false_and])
          clear HSt HM q9
          go_wp2_with (go_at_call 60; refine cF.mono ?_; rintro e w3 ⟨rfl, b3⟩; have HB3 := Lib.hid (bchain HB2.out b3); clear b3 cF)
          go_ret
          exact ⟨ret_bool HR9.out.symm, HB3.out⟩
        · rw [q9] at cF
          have HM9 : Hid (Wl.more ((Hd.h r l).with (l.take (k + 1))) (l.drop (k + 1)) = Wl.right (Hd.h r l)) := Lib.hid (by rw [← HM.out, HSt.out, q9, Bool.true_and])
          clear HSt HM q9
          go_wp2_with (go_at_call 60; refine cF.mono ?_; rintro e w3 ⟨rfl, b3⟩; have HB3 := Lib.hid (bchain HB2.out b3); have HK3 := Lib.hid (HK2.out.below b3); clear b3 cF)
          go_roundw
          case rel => exact ⟨k + 1, by omega, by go_num, HB3, ⟨_, HK3⟩, HM9⟩
          case measure => simp [intOf]; omega
      · have HR9 : Hid (Wl.right (Hd.h r l) = true) := Lib.hid (by
          rw [← HM.out, List.drop_eq_nil_of_le (by have := HN.out; omega)]
          rfl)
        clear HM HK
        go_wp2_with fail
        go_ret
        exact ⟨ret_bool HR9.out.symm, HB.out⟩
end Go.Proofs.Ytagjbjppddbalaa
