/- THE WALK OF KindRuns. -/
import Derived.Test.YtfmfeagfinnmmabKRuns
namespace Go.Proofs.Ytfmfeagfinnmmab
open Go.RowKit
open Go.Sort (grow)
open Vl (T)
open Mem Tg

theorem each_two {A : Nat → Prop} {w : World} {vs : List Value} (h : Each A w [.num 5, .text aTxt] vs) : vs = [.iface 64 (.int .i64 5), .iface 60 (.string ⟨#[97]⟩)] := by
  obtain ⟨hl, h⟩ := h
  match vs, hl with
  | [a, b], _ =>
    have h0 := h 0 (by simp) (by simp)
    have h1 := h 1 (by simp) (by simp)
    simp only [List.getElem_cons_zero, List.getElem_cons_succ] at h0 h1
    cases h0
    cases h1
    rfl
set_option maxHeartbeats 4000000 in
theorem kruns_any (w0 w : World) (hw : Below w0.heap.size w0 w) :
    Calls Try.prog 6 #[] w fun e w' => e = .returned (.bool true) ∧ Below w0.heap.size w0 w' := by
  have HB0 := Lib.hid hw
  clear hw
  have HL := Lib.hid (lit_ls w L1 L1_short (by decide))
  obtain ⟨W, hW⟩ : ∃ W, w.alloc (.cells (L1.flatMap Vl.rv).toArray 41) = W := ⟨_, rfl⟩
  have HBW : Hid (Below w0.heap.size w0 W) := Lib.hid (hW ▸ below_box HB0.out _)
  rw [hW] at HL
  have hW' : w.alloc (.cells #[.int .i64 5, .int .i64 2, .string ⟨#[]⟩, .int .i64 0, .int .i64 0, .int .i64 0, .int .i64 1, .int .i64 5, .string ⟨#[]⟩, .int .i64 0, .int .i64 0, .int .i64 0, .int .i64 2, .int .i64 0, .string ⟨#[97]⟩, .int .i64 0, .int .i64 0, .int .i64 0] 41) = W := hW
  clear hW
  go_enter Try.func6, Try.ntmps6
  go_wp2_with fail
  refine (kind_of L1 _ 3 3 W W (Below.refl _ _) HL.out).mono ?_
  rintro e w1 ⟨he, b1⟩
  obtain ⟨v, rfl, hI⟩ := of_ok he L1_flat T1_fits
  have HB1 := Lib.hid (bchain HBW.out b1)
  have hv1 := hI.oneCell
  have hst := store_fresh w1 v hv1
  have HI := Lib.hid hI
  clear he b1 hI hW'
  unfold tv
  go_wp2_with fail
  have hcall := kind_list (A := fun b => W.heap.size ≤ b) [.num 5, .text aTxt] v _ _ (Below.refl _ _) (HI.out.stays ((Below.refl _ _).alloc (Nat.le_refl _) (.cells #[v] 26)))
  simp only [List.length_cons, List.length_nil, Nat.zero_add, Nat.reduceAdd] at hcall
  unfold tv at hcall
  refine hcall.mono ?_
  clear hcall
  rintro e w2 ⟨⟨g, vs, rfl, hg, hblk, hE, _⟩, b2, _⟩
  have HB2 := Lib.hid (bchain (below_box HB1.out _) b2)
  obtain rfl := each_two hE
  have c0 := cell_regrown (hblk.row 0 (by simp))
  have c1 := cell_regrown (hblk.row 1 (by simp))
  simp only [List.getElem_cons_zero, List.getElem_cons_succ] at c0 c1
  clear hst hE b2 hblk
  have k5 := runs_five
  have ka := runs_a
  have s5 := runs_same5
  have sa := runs_samea
  go_wp2
  refine wp_region_quiet_below (by kernel_rfl) (by kernel_rfl) ?_
  repeat (first | go_big_quiet_step (first | (go_at_call 14; exact k5 _ _ _) | (go_at_call 8; exact ka _ _ _) | (go_at_call_of 13 (Value.int .i64 5); exact s5 _ _ _) | (go_at_call_of 13 (Value.string ⟨#[97]⟩); exact sa _ _ _)) | quiet_step (first | (go_at_call 14; exact k5 _ _ _) | (go_at_call 8; exact ka _ _ _) | (go_at_call_of 13 (Value.int .i64 5); exact s5 _ _ _) | (go_at_call_of 13 (Value.string ⟨#[97]⟩); exact sa _ _ _)))
  refine wpQuiet_nil ?_
  intro _ hw'
  obtain ⟨⟨dq, osq⟩, hw''⟩ := hw'
  subst hw''
  have HB3 := Lib.hid (bchain HB2.out (below_regrown w2 dq osq))
  clear c0 c1 k5 ka s5 sa
  generalize grow (redrawn w2 dq) osq = x at *
  have HL2 := Lib.hid (lit_ls x L2 L2_short (by decide))
  obtain ⟨W2, hW2⟩ : ∃ W, x.alloc (.cells (L2.flatMap Vl.rv).toArray 41) = W := ⟨_, rfl⟩
  have HBW2 : Hid (Below w0.heap.size w0 W2) := Lib.hid (hW2 ▸ below_box HB3.out _)
  rw [hW2] at HL2
  have hW2' : x.alloc (.cells #[.int .i64 5, .int .i64 2, .string ⟨#[]⟩, .int .i64 0, .int .i64 0, .int .i64 0, .int .i64 1, .int .i64 5, .string ⟨#[]⟩, .int .i64 0, .int .i64 0, .int .i64 0] 41) = W2 := hW2
  clear hW2
  go_wp2_with fail
  refine (kind_of L2 _ 2 2 W2 W2 (Below.refl _ _) HL2.out).mono ?_
  rintro e w4 ⟨he, b4⟩
  obtain rfl := of_no he L2_of (by omega)
  have HB4 := Lib.hid (below_box (bchain HBW2.out b4) (.cells #[.nilIface] 26))
  clear he b4 hW2'
  have HL3 := Lib.hid (lit_ls (w4.alloc (.cells #[.nilIface] 26)) L3 L3_short (by decide))
  obtain ⟨W3, hW3⟩ : ∃ W, (w4.alloc (.cells #[.nilIface] 26)).alloc (.cells (L3.flatMap Vl.rv).toArray 41) = W := ⟨_, rfl⟩
  have HBW3 : Hid (Below w0.heap.size w0 W3) := Lib.hid (hW3 ▸ below_box HB4.out _)
  rw [hW3, show (w4.alloc (.cells #[.nilIface] 26)).heap.size = w4.heap.size + 1 by simp] at HL3
  have hW3' : (w4.alloc (.cells #[.nilIface] 26)).alloc (.cells #[.int .i64 1, .int .i64 5, .string ⟨#[]⟩, .int .i64 0, .int .i64 0, .int .i64 0, .int .i64 0, .int .i64 0, .string ⟨#[]⟩, .int .i64 0, .int .i64 0, .int .i64 0] 41) = W3 := hW3
  clear hW3
  go_wp2_with fail
  refine (kind_of L3 _ 2 2 W3 W3 (Below.refl _ _) HL3.out).mono ?_
  rintro e w5 ⟨he, b5⟩
  obtain rfl := of_no he L3_of (by omega)
  have HB5 := Lib.hid (below_box (bchain HBW3.out b5) (.cells #[.nilIface] 26))
  clear he b5 hW3'
  have HL4 := Lib.hid (lit_ls (w5.alloc (.cells #[.nilIface] 26)) L4 L4_short (by decide))
  obtain ⟨W4, hW4⟩ : ∃ W, (w5.alloc (.cells #[.nilIface] 26)).alloc (.cells (L4.flatMap Vl.rv).toArray 41) = W := ⟨_, rfl⟩
  have HBW4 : Hid (Below w0.heap.size w0 W4) := Lib.hid (hW4 ▸ below_box HB5.out _)
  rw [hW4, show (w5.alloc (.cells #[.nilIface] 26)).heap.size = w5.heap.size + 1 by simp] at HL4
  have hW4' : (w5.alloc (.cells #[.nilIface] 26)).alloc (.cells #[.int .i64 3, .int .i64 2, .string ⟨#[]⟩, .int .i64 0, .int .i64 0, .int .i64 0] 41) = W4 := hW4
  clear hW4
  go_wp2_with fail
  refine (kind_of L4 _ 1 1 W4 W4 (Below.refl _ _) HL4.out).mono ?_
  rintro e w6 ⟨he, b6⟩
  obtain rfl := of_no he L4_of (by omega)
  have HB6 := Lib.hid (bchain HBW4.out b6)
  clear he b6 hW4'
  have HBZ := Lib.hid (below_box (below_box HB6.out (.cells #[.nilIface] 26)) (.cells #[.nilIface] 26))
  have HZc : Hid (((w6.alloc (.cells #[.nilIface] 26)).alloc (.cells #[.nilIface] 26)).cell? ⟨w6.heap.size + 1, 0, none⟩ = some .nilIface) := Lib.hid (by simp [go_sem])
  go_wp2_with fail
  refine (from_text ⟨#[97]⟩ ((w6.alloc (.cells #[.nilIface] 26)).alloc (.cells #[.nilIface] 26)) _ (Below.refl _ _)).mono ?_
  rintro e w7 ⟨rfl, b7⟩
  have HB7 := Lib.hid b7
  clear b7
  generalize (w6.alloc (.cells #[.nilIface] 26)).alloc (.cells #[.nilIface] 26) = Z at HB7 HBZ HZc
  unfold tv
  go_wp2_with fail
  refine (kind_int (A := fun _ => True) (.text aTxt) _ Z _ HB7.out (.text sa_size)).mono ?_
  rintro e w8 ⟨rfl, b8⟩
  have HB8 := Lib.hid b8
  clear b8
  unfold asInt
  go_wp2_with fail
  refine (from_int 7 Z _ HB8.out).mono ?_
  rintro e w9 ⟨rfl, b9⟩
  have HB9 := Lib.hid b9
  clear b9
  unfold tv
  go_wp2_with fail
  refine (kind_int (A := fun _ => True) (.num 7) _ Z _ HB9.out (.num fit7)).mono ?_
  rintro e w10 ⟨rfl, b10⟩
  have HB10 := Lib.hid b10
  clear b10
  unfold asInt
  go_wp2_with fail
  refine (runs_caught Z _ HB10.out).mono ?_
  rintro e w11 ⟨rfl, b11⟩
  have HB11 := Lib.hid b11
  have hsz := b11.size
  have hzc : w11.cell? ⟨w6.heap.size + 1, 0, none⟩ = some .nilIface := by
    rw [(bcell b11).1 _ _ (cell_lt HZc.out)]
    exact HZc.out
  have bV : Below w11.heap.size w11 (w11.alloc (.cells #[.int .i64 1, .int .i64 2] 53)) := (Below.refl _ _).alloc (Nat.le_refl _) _
  have hzV : (w11.alloc (.cells #[.int .i64 1, .int .i64 2] 53)).cell? ⟨w6.heap.size + 1, 0, none⟩ = some .nilIface := by
    rw [(bcell bV).1 _ _ (cell_lt hzc)]
    exact hzc
  have hq0 : (w11.alloc (.cells #[.int .i64 1, .int .i64 2] 53)).cell? ⟨w11.heap.size, 0, none⟩ = some (.int .i64 1) := by simp [go_sem]
  have hq1 : (w11.alloc (.cells #[.int .i64 1, .int .i64 2] 53)).cell? ⟨w11.heap.size, 1, none⟩ = some (.int .i64 2) := by simp [go_sem]
  have HBV := Lib.hid (bchain (bchain HBZ.out b11) bV)
  have HQ0 := Lib.hid hq0
  have HQ1 := Lib.hid hq1
  clear b11 bV hzc
  go_wp2_with fail
  refine (kind_any (A := fun _ => True) .none .nilIface (w11.alloc (.cells #[.int .i64 1, .int .i64 2] 53)) _ (Below.refl _ _) .nothing).mono ?_
  rintro e w12 ⟨rfl, b12⟩
  have hr0 : w12.cell? ⟨w11.heap.size, 0, none⟩ = some (.int .i64 1) := by
    rw [(bcell b12).1 _ _ (cell_lt HQ0.out)]
    exact HQ0.out
  have hr1 : w12.cell? ⟨w11.heap.size, 1, none⟩ = some (.int .i64 2) := by
    rw [(bcell b12).1 _ _ (cell_lt HQ0.out)]
    exact HQ1.out
  have HB12 := Lib.hid (bchain HBV.out b12)
  clear b12 hq0 hq1 hzV
  unfold Th.kind
  go_wp2_with fail
  refine (from_int 7 w0 _ HB12.out).mono ?_
  rintro e w13 ⟨rfl, b13⟩
  have HB13 := Lib.hid b13
  clear b13
  unfold tv
  go_wp2_with fail
  refine (kind_mustint_ok 7 fit7 w0 _ HB13.out).mono ?_
  rintro e w14 ⟨rfl, b14⟩
  have HB14 := Lib.hid b14
  clear b14
  go_wp2_with fail
  go_ret
  exact ⟨rfl, HB14.out⟩
theorem kindRuns_walk (w : World) : Calls Try.prog 6 #[] w fun e w' => e = .returned (.bool true) ∧ Below w.heap.size w w' := kruns_any w w (Below.refl _ _)
end Go.Proofs.Ytfmfeagfinnmmab
