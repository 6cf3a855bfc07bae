/- THE DOCUMENT's OWN ANSWER: impostref8.Get. (By genrget.py.) -/
import Derived.Test.YtndfhnaafaijcaaRgE
set_option linter.unusedVariables false
set_option maxRecDepth 100000
namespace Go.Proofs.Ytndfhnaafaijcaa
open Go.RowKit
open Mem Pk Cm

set_option maxHeartbeats 16000000 in
theorem rget_err (bs : List UInt8) (ao : Option Addr) (m cap : Nat) (w : World) (hL : By.Ls w ao m cap bs) (hsm : ¬ 1024 < m) (he : (rNum bs s0).2.err ≠ 0) :
    Calls Try.prog 25 #[.slice ao m cap] w (RGetE bs w) := by
  have HL := Lib.hid hL
  have HLen := Lib.hid hL.len
  have hcap := hL.reach
  have hfit := hL.fits
  have hb0 : Below w.heap.size w (w.alloc (.cells #[.int .i64 0, .string .empty, .int .i64 0, .string .empty, .int .i64 0, .int .i64 0, .int .i64 0, .int .i64 0, .int .i64 0, .int .i64 0, .int .i64 0, .slice none 0 0, .string .empty, .int .i64 0, .int .i64 0] 37)) := below_box (Below.refl _ _) _
  have HB0 := Lib.hid hb0
  have HL0 := Lib.hid (hL.below hb0)
  have HA0 : Hid (Cm.Blk (w.alloc (.cells #[.int .i64 0, .string .empty, .int .i64 0, .string .empty, .int .i64 0, .int .i64 0, .int .i64 0, .int .i64 0, .int .i64 0, .int .i64 0, .int .i64 0, .slice none 0 0, .string .empty, .int .i64 0, .int .i64 0] 37)) w.heap.size Cm.T.zero) := Lib.hid (heap_alloc_new w _)
  have HSm : Hid (¬ 1024 < bs.length) := Lib.hid (by rw [← HLen.out]; exact hsm)
  have HBs : Hid (bs.length ≤ 1000000) := Lib.hid (by have := HSm.out; omega)
  have a1 : ¬ (1024 : Int) < (m : Int) := by omega
  have HN := Lib.hid (get_num (bs := bs) HSm.out)
  have HKd := Lib.hid (get_kind (bs := bs) HSm.out)
  have HEn := Lib.hid (get_end (bs := bs) HSm.out)
  have HIs := Lib.hid (get_is (bs := bs) HSm.out)
  have HKf := Lib.hid (rNum_fit bs s0)
  obtain ⟨k, s1, hq⟩ : ∃ k s1, rNum bs s0 = (k, s1) := ⟨_, _, rfl⟩
  rw [hq] at he HN HKd HEn HIs HKf
  dsimp only at he HN HKd HEn HIs HKf
  have HQ := Lib.hid hq
  have HE := Lib.hid he
  clear hL hb0 hq 
  go_enter Try.func25, Try.ntmps25
  go_wp2_with fail
  refine (ref_read bs ao m cap _ HL0.out (by omega)).mono ?_
  rintro e w1 ⟨⟨p, bo, bc, rfl, hp, hR1⟩, b1⟩
  have hps : w.heap.size + 1 ≤ p := by simpa using hp
  have HA1 := Lib.hid (HA0.out.below b1)
  have HR1 := Lib.hid hR1
  have HB1 := Lib.hid (bchain HB0.out b1)
  have hwp : w.heap.size ≠ p := by omega
  clear hR1 b1 hp
  go_wp2_with fail
  refine (ref_rd_num p bo m bc bs s0 w1 HR1.out).mono ?_
  rintro e w2 ⟨rfl, hR2, hU2⟩
  rw [HQ.out] at hR2 ⊢
  dsimp only at hR2 ⊢
  have hlp := cell_lt hR2.c0
  obtain ⟨W2, hW2, d2, hC2⟩ := Cm.boxB w2 { Cm.T.zero with kind := k }
  have HA2 := Lib.hid ((HA1.out.upd hU2 hwp).below d2)
  have HB2 := Lib.hid (bchain (get_upd HB1.out (by omega) hU2) d2)
  have HR2 := Lib.hid (hR2.below d2)
  have HC2 := Lib.hid hC2
  have HOff := Lib.hid (hR2.off (Nat.le_refl _))
  have hgp : w2.heap.size ≠ p := by omega
  have hlw : w.heap.size < w2.heap.size := by omega
  have hwg : w.heap.size ≠ w2.heap.size := by omega
  have e2 := HR2.out.c2
  have e0 := hC2.cell 0
  change _ = some _ at e0
  replace e0 : W2.cell? ⟨w2.heap.size, 0, none⟩ = some (.int .i64 k) := e0
  clear hR2 hU2 d2 hC2
  have q1 : (s1.err != 0) = true := bne_iff_ne.2 HE.out
  have HAd : Hid (Cm.Blk W2.drew w.heap.size Cm.T.zero) := Lib.hid (HA2.out.below (Below.refl _ _).drew)
  have hS0 : W2.drew.cell? ⟨p, 2, none⟩ = some (.int .i64 s1.err) := e2
  have HS1 : Hid ((W2.drew.setRow w.heap.size (Cm.rv Cm.T.zero).toArray).cell? ⟨p, 2, none⟩ = some (.int .i64 s1.err)) := Lib.hid ((World.cell?_of_block (w := W2.drew) (setRow_other W2.drew w.heap.size p _ (by omega))).trans hS0)
  go_wp2_with (first | (with_reducible apply Cm.wplB_new (c := { Cm.T.zero with kind := k }); rfl; rfl; kernel_rfl; rfl; kernel_rfl; kernel_rfl; rw [hW2]))
  clear hW2 e0
  refine wp_region_held_drew (S := fun u => u.cell? ⟨p, 2, none⟩ = some (.int .i64 s1.err)) (by kernel_rfl) hS0 (fun hHeld => ?_)
  refine wpAnyH_take (i := 0) (oi := { dst := some 24, op := Op.build 37 #[], type := 37, pos := "ref.go:156", after := #[], guard := none }) (v := ?_) rfl (by kernel_rfl) (by kernel_rfl) (by kernel_rfl) (fun _ _ _ h => h) (Or.inl ⟨by rfl, ?_⟩) (by assumption) ?_
  rotate_left
  · intro w hSw
    try dsimp only at hSw
    go_simp
    try with_reducible rfl
  try simp only [Act.put, List.setIfInBounds_toArray, List.set_cons_zero, List.set_cons_succ]
  refine wpAnyH_take (i := 1) (oi := { dst := some 25, op := Op.move (Operand.tmp 4), type := 99, pos := "ref.go:156", after := #[{ on := 5, ground := Ground.gcOnly Departure.lateStores }], guard := none }) (v := ?_) rfl (by kernel_rfl) (by kernel_rfl) (by kernel_rfl) (fun _ _ _ h => h) (Or.inl ⟨by rfl, ?_⟩) (by assumption) ?_
  rotate_left
  · intro w hSw
    try dsimp only at hSw
    go_simp
    try with_reducible rfl
  try simp only [Act.put, List.setIfInBounds_toArray, List.set_cons_zero, List.set_cons_succ]
  refine wpAnyH_take (i := 2) (oi := { dst := some 26, op := Op.nilCheck (Operand.tmp 25), type := 0, pos := "ref.go:156", after := #[{ on := 1, ground := Ground.data }, { on := 5, ground := Ground.gcOnly Departure.lateStores }], guard := none }) (v := ?_) rfl (by kernel_rfl) (by kernel_rfl) (by kernel_rfl) (fun _ _ _ h => h) (Or.inl ⟨by rfl, ?_⟩) (by assumption) ?_
  rotate_left
  · intro w hSw
    try dsimp only at hSw
    go_simp
    try with_reducible rfl
  try simp only [Act.put, List.setIfInBounds_toArray, List.set_cons_zero, List.set_cons_succ]
  refine wpAnyH_take (i := 3) (oi := { dst := some 27, op := Op.fieldAddr 102 (Operand.tmp 26) 2, type := 0, pos := "ref.go:156", after := #[{ on := 2, ground := Ground.data }, { on := 5, ground := Ground.gcOnly Departure.lateStores }], guard := none }) (v := ?_) rfl (by kernel_rfl) (by kernel_rfl) (by kernel_rfl) (fun _ _ _ h => h) (Or.inl ⟨by rfl, ?_⟩) (by assumption) ?_
  rotate_left
  · intro w hSw
    try dsimp only at hSw
    go_simp
    try with_reducible rfl
  try simp only [Act.put, List.setIfInBounds_toArray, List.set_cons_zero, List.set_cons_succ]
  refine wpAnyH_take (i := 4) (oi := { dst := some 28, op := Op.load 3 (Operand.tmp 27), type := 3, pos := "ref.go:156", after := #[{ on := 3, ground := Ground.data }, { on := 5, ground := Ground.gcOnly Departure.lateStores }], guard := none }) (v := ?_) rfl (by kernel_rfl) (by kernel_rfl) (by kernel_rfl) (fun _ _ _ h => h) (Or.inl ⟨by rfl, ?_⟩) (by assumption) ?_
  rotate_left
  · intro w hSw
    try dsimp only at hSw
    go_simp
    try with_reducible rfl
  try simp only [Act.put, List.setIfInBounds_toArray, List.set_cons_zero, List.set_cons_succ]
  refine wpAnyH_ready (rs := [5]) (by kernel_rfl) (by simp) ?_
  refine AllReadyH.cons (o := { dst := none, op := Op.store 37 (Operand.tmp 2) (Operand.tmp 24), type := 0, pos := "ref.go:156", after := #[{ on := 0, ground := Ground.data }, { on := 0, ground := Ground.phase }, { on := 1, ground := Ground.textOnly Departure.lateStores }, { on := 2, ground := Ground.textOnly Departure.lateStores }, { on := 3, ground := Ground.textOnly Departure.lateStores }, { on := 4, ground := Ground.textOnly Departure.lateStores }], guard := none }) rfl (fun K hK => ?_) AllReadyH.nil
  refine Cm.step_store w.heap.size Cm.T.zero Cm.T.zero ?_ (.tmp 2) (.tmp 24) ?_ ?_ ?_ HAd.out ?_
  · rfl
  · rfl
  · kernel_rfl
  · kernel_rfl
  refine hK.out _ _ HS1.out (fun hHeld2 => ?_)
  clear hK K
  simp only [Act.put]
  refine wpAnyH_take (i := 6) (oi := { dst := some 3, op := Op.assign (Operand.tmp 28), type := 3, pos := "ref.go:156", after := #[{ on := 4, ground := Ground.data }, { on := 5, ground := Ground.chain }, { on := 0, ground := Ground.phase }, { on := 1, ground := Ground.phase }, { on := 2, ground := Ground.phase }, { on := 3, ground := Ground.phase }, { on := 4, ground := Ground.phase }, { on := 5, ground := Ground.phase }], guard := none }) (v := ?_) rfl (by kernel_rfl) (by kernel_rfl) (by kernel_rfl) (fun _ _ _ h => h) (Or.inl ⟨by rfl, ?_⟩) (by assumption) ?_
  rotate_left
  · intro w hSw
    try dsimp only at hSw
    go_simp
    try with_reducible rfl
  try simp only [Act.put, List.setIfInBounds_toArray, List.set_cons_zero, List.set_cons_succ]
  refine wpAnyH_done (by kernel_rfl) ?_ _
  go_wp2_with fail
  refine bodyPost_ret (Cm.results_blk2 Try.results25 rfl (HAd.out.row Cm.T.zero)) rfl ?_
  exact rget_zero (HN.out HE.out) ((HB2.out.trans ((Below.refl _ _).drew)).trans (below_row (Nat.le_refl _) _))
set_option maxHeartbeats 16000000 in
theorem rget_no (bs : List UInt8) (ao : Option Addr) (m cap : Nat) (w : World) (hL : By.Ls w ao m cap bs) (hsm : ¬ 1024 < m) (he : (rNum bs s0).2.err = 0) (hk : ¬ (1 ≤ (rNum bs s0).1 ∧ (rNum bs s0).1 ≤ 8)) :
    Calls Try.prog 25 #[.slice ao m cap] w (RGetE bs w) := by
  have HL := Lib.hid hL
  have HLen := Lib.hid hL.len
  have hcap := hL.reach
  have hfit := hL.fits
  have hb0 : Below w.heap.size w (w.alloc (.cells #[.int .i64 0, .string .empty, .int .i64 0, .string .empty, .int .i64 0, .int .i64 0, .int .i64 0, .int .i64 0, .int .i64 0, .int .i64 0, .int .i64 0, .slice none 0 0, .string .empty, .int .i64 0, .int .i64 0] 37)) := below_box (Below.refl _ _) _
  have HB0 := Lib.hid hb0
  have HL0 := Lib.hid (hL.below hb0)
  have HA0 : Hid (Cm.Blk (w.alloc (.cells #[.int .i64 0, .string .empty, .int .i64 0, .string .empty, .int .i64 0, .int .i64 0, .int .i64 0, .int .i64 0, .int .i64 0, .int .i64 0, .int .i64 0, .slice none 0 0, .string .empty, .int .i64 0, .int .i64 0] 37)) w.heap.size Cm.T.zero) := Lib.hid (heap_alloc_new w _)
  have HSm : Hid (¬ 1024 < bs.length) := Lib.hid (by rw [← HLen.out]; exact hsm)
  have HBs : Hid (bs.length ≤ 1000000) := Lib.hid (by have := HSm.out; omega)
  have a1 : ¬ (1024 : Int) < (m : Int) := by omega
  have HN := Lib.hid (get_num (bs := bs) HSm.out)
  have HKd := Lib.hid (get_kind (bs := bs) HSm.out)
  have HEn := Lib.hid (get_end (bs := bs) HSm.out)
  have HIs := Lib.hid (get_is (bs := bs) HSm.out)
  have HKf := Lib.hid (rNum_fit bs s0)
  obtain ⟨k, s1, hq⟩ : ∃ k s1, rNum bs s0 = (k, s1) := ⟨_, _, rfl⟩
  rw [hq] at he hk HN HKd HEn HIs HKf
  dsimp only at he hk HN HKd HEn HIs HKf
  have HQ := Lib.hid hq
  have HE := Lib.hid he
  clear hL hb0 hq 
  go_enter Try.func25, Try.ntmps25
  go_wp2_with fail
  refine (ref_read bs ao m cap _ HL0.out (by omega)).mono ?_
  rintro e w1 ⟨⟨p, bo, bc, rfl, hp, hR1⟩, b1⟩
  have hps : w.heap.size + 1 ≤ p := by simpa using hp
  have HA1 := Lib.hid (HA0.out.below b1)
  have HR1 := Lib.hid hR1
  have HB1 := Lib.hid (bchain HB0.out b1)
  have hwp : w.heap.size ≠ p := by omega
  clear hR1 b1 hp
  go_wp2_with fail
  refine (ref_rd_num p bo m bc bs s0 w1 HR1.out).mono ?_
  rintro e w2 ⟨rfl, hR2, hU2⟩
  rw [HQ.out] at hR2 ⊢
  dsimp only at hR2 ⊢
  have hlp := cell_lt hR2.c0
  obtain ⟨W2, hW2, d2, hC2⟩ := Cm.boxB w2 { Cm.T.zero with kind := k }
  have HA2 := Lib.hid ((HA1.out.upd hU2 hwp).below d2)
  have HB2 := Lib.hid (bchain (get_upd HB1.out (by omega) hU2) d2)
  have HR2 := Lib.hid (hR2.below d2)
  have HC2 := Lib.hid hC2
  have HOff := Lib.hid (hR2.off (Nat.le_refl _))
  have hgp : w2.heap.size ≠ p := by omega
  have hlw : w.heap.size < w2.heap.size := by omega
  have hwg : w.heap.size ≠ w2.heap.size := by omega
  have e2 := HR2.out.c2
  have e0 := hC2.cell 0
  change _ = some _ at e0
  replace e0 : W2.cell? ⟨w2.heap.size, 0, none⟩ = some (.int .i64 k) := e0
  clear hR2 hU2 d2 hC2
  have q1 : (s1.err != 0) = false := by rw [HE.out]; rfl
  have HK := Lib.hid hk
  have k1 : (k == 1) = false := beq_eq_false_iff_ne.2 (by omega)
  have k2 : (k == 2) = false := beq_eq_false_iff_ne.2 (by omega)
  have k3 : (k == 3) = false := beq_eq_false_iff_ne.2 (by omega)
  have k4 : (k == 4) = false := beq_eq_false_iff_ne.2 (by omega)
  have k5 : (k == 5) = false := beq_eq_false_iff_ne.2 (by omega)
  have k6 : (k == 6) = false := beq_eq_false_iff_ne.2 (by omega)
  have k7 : (k == 7) = false := beq_eq_false_iff_ne.2 (by omega)
  have k8 : (k == 8) = false := beq_eq_false_iff_ne.2 (by omega)
  clear hk he
  go_wp2_with (first | (with_reducible apply Cm.wplB_new (c := { Cm.T.zero with kind := k }); rfl; rfl; kernel_rfl; rfl; kernel_rfl; kernel_rfl; rw [hW2]) | (with_reducible apply Cm.wplB_store (g := w.heap.size) (old := Cm.T.zero) (c := Cm.T.zero); rfl; rfl; kernel_rfl; kernel_rfl; exact HA2.out))
  refine bodyPost_ret (Cm.results_blk2 Try.results25 rfl (HA2.out.row Cm.T.zero)) rfl ?_
  exact rget_zero (HKd.out HE.out HK.out) (HB2.out.trans (below_row (Nat.le_refl _) _))
end Go.Proofs.Ytndfhnaafaijcaa
