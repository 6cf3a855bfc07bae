/- THE WALK OF VatTells. -/
import Derived.Test.YtgcjhlnolmjdeaaVRuns
import Derived.Test.YtgcjhlnolmjdeaaRoomR
namespace Go.Proofs.Ytgcjhlnolmjdeaa
open Go.RowKit
open Vt (Rt)
open Go.Sort (grow)

def markR (k : Int) : Rt := ⟨⟨#[]⟩, 0, 0, 0, k⟩
theorem short_mark {k : Int} (h : Fit k) : Short (markR k) := ⟨by show 0 ≤ _; omega, fit_lit rfl, fit_lit rfl, fit_lit rfl, h⟩
theorem full_rts {w : World} {g n : Nat} {L : List Rt} {mark : Rt} (hB : BlockR w g (L ++ List.replicate 80 mark)) (hn : n = L.length) (hn9 : n ≤ 900) (hs : ∀ r ∈ L, Short r) (hm : Short mark) : Rts w (some ⟨g, 0, none⟩) (n + 80) (n + 80) (L ++ List.replicate 80 mark) :=
  BlockR.rts (zs := []) (by rw [List.append_nil]; exact hB) _ _ (by rw [List.length_append, List.length_replicate, ← hn]) (Nat.le_refl _) (by omega) (fun r hr => by
    rcases List.mem_append.1 hr with hr | hr
    · exact hs r hr
    · rw [(List.mem_replicate.1 hr).2]; exact hm)
set_option maxHeartbeats 4000000 in
theorem vatTells_walk (rs : List Rt) (ao : Option Addr) (n cap : Nat) (r : Rt) (y m d : Int) (w : World) (hR : Rts w ao n cap rs) (hs : Short r) (hy : Fit y) (hm : Fit m) (hd : Fit d) :
    Calls Try.prog 4 #[.slice ao n cap, rowV r, dayV y m d] w fun e w' => e = .returned (.bool true) ∧ Below w.heap.size w w' := by
  have HR := Lib.hid hR
  have HS := Lib.hid hs
  have HF := Lib.hid (And.intro hy (And.intro hm hd))
  clear hR hs hy hm hd
  obtain ⟨W, hW, hbW, hCr, hCd⟩ := boxedRD w r y m d
  have HBW := Lib.hid hbW
  have HCr := Lib.hid hCr
  have HCd := Lib.hid hCd
  clear hbW hCr hCd
  unfold rowV dayV
  go_enter Try.func4, Try.ntmps4
  go_wp2_with fail
  refine (few_any rs ao n cap _ (HR.out.below HBW.out)).mono ?_
  rintro e w1 ⟨⟨k, rfl, hL, hk⟩, hw1⟩
  subst hw1
  clear hW
  have HL := Lib.hid hL
  clear hL
  obtain ⟨L, hLL⟩ : ∃ L, rs.take 40 = L := ⟨_, rfl⟩
  rw [hLL] at HL
  clear hLL
  have hcap := HL.out.reach
  have hfit := HL.out.fits
  go_wp2_with fail
  refine (roomy_rows L (markR 7) ao k cap _ HL.out (by omega)).mono ?_
  rintro e w2 ⟨rfl, hB2, b2⟩
  have HBk := Lib.hid hB2
  have HB2 := Lib.hid b2
  have hFull := full_rts hB2 HL.out.len (by omega) HL.out.short (short_mark (fit_lit rfl))
  obtain ⟨hs1, hO⟩ := rts_to hFull k (by omega)
  rw [List.take_left' HL.out.len.symm] at hO
  have HO := Lib.hid hO
  replace HL := Lib.hid (HL.out.below b2)
  replace HCr := Lib.hid (HCr.out.below b2)
  replace HCd := Lib.hid (HCd.out.below b2)
  have HBw := Lib.hid (bchain HBW.out b2)
  clear hB2 hFull hO b2 HBW
  generalize w1.heap.size + 1 = g at *
  have hC := HCr.out
  unfold RowC at hC
  obtain ⟨a0, a1, a2, a3, a4⟩ := hC
  have hD := HCd.out
  unfold DayC at hD
  obtain ⟨d0, d1, d2⟩ := hD
  go_wp2_with fail
  refine (vat_find L (some ⟨g, 0, none⟩) k (k + 80) r.cat y m d w2 _ (Below.refl _ _) HO.out HF.out.1 HF.out.2.1 HF.out.2.2).mono ?_
  rintro e w3 ⟨rfl, b3⟩
  have HB3 := Lib.hid b3
  clear a0 a1 a2 a3 a4 d0 d1 d2 b3
  obtain ⟨⟨x, f⟩, hx⟩ : ∃ k, Vt.find L r.cat y m d = k := ⟨_, rfl⟩
  have HX := Lib.hid hx
  rw [hx]
  unfold foundE
  dsimp only
  clear hx
  have hC := HCr.out.below HB3.out
  unfold RowC at hC
  obtain ⟨a0, a1, a2, a3, a4⟩ := hC
  have hD := HCd.out.below HB3.out
  unfold DayC at hD
  obtain ⟨d0, d1, d2⟩ := hD
  go_wp2_with fail
  refine (refFind_any L ao k cap r.cat y m d w2 _ HB3.out (HL.out.below HB3.out)).mono ?_
  rintro e u ⟨rfl, b4⟩
  have HB4 := Lib.hid b4
  clear a0 a1 a2 a3 a4 d0 d1 d2 b4
  rw [HX.out]
  unfold foundE
  dsimp only
  have hC := HCr.out.below HB4.out
  unfold RowC at hC
  obtain ⟨a0, a1, a2, a3, a4⟩ := hC
  have a0' := cell_regrown a0
  have a1' := cell_regrown a1
  have a2' := cell_regrown a2
  have a3' := cell_regrown a3
  have a4' := cell_regrown a4
  obtain ⟨E, hE⟩ : ∃ E, Vt.rowE r = E := ⟨_, rfl⟩
  obtain ⟨B, hBB⟩ : ∃ B, Vt.tableB L = B := ⟨_, rfl⟩
  have q1 : ∀ i os, Ans 17 #[.agg #[.string r.cat, .int .i64 r.y, .int .i64 r.m, .int .i64 r.d, .int .i64 r.bp]] u i os (.int .i64 E) := fun i os => hE ▸ Calls.regrown_of (vat_row r _ _ (Below.refl _ _) HS.out)
  have q2 : ∀ i os, Ans 18 #[.agg #[.string r.cat, .int .i64 r.y, .int .i64 r.m, .int .i64 r.d, .int .i64 r.bp]] u i os (.int .i64 E) := fun i os => hE ▸ Calls.regrown_of (refRow_any r _ _ (Below.refl _ _) HS.out)
  have q3 : ∀ i os, Ans 10 #[.slice (some ⟨g, 0, none⟩) k (k + 80)] u i os (.bool B) := fun i os => hBB ▸ Calls.regrown_of (vat_right L _ k _ _ _ (Below.refl _ _) ((HO.out.below HB4.out).below (below_regrown u i os)))
  have q4 : ∀ i os, Ans 19 #[.slice ao k cap] u i os (.bool B) := fun i os => hBB ▸ Calls.regrown_of (refTable_any L _ k _ _ _ (Below.refl _ _) ((HL.out.below HB4.out).below (below_regrown u i os)))
  have q5 : ∀ i os, Ans 20 #[.slice (some ⟨g, 0, none⟩) (k + 80) (k + 80), .slice ao k cap, .agg #[.string ⟨#[]⟩, .int .i64 0, .int .i64 0, .int .i64 0, .int .i64 7]] u i os (.bool true) := fun i os => Calls.regrown_of (intact_rows L (markR 7) ao g k cap _ _ (Below.refl _ _) ((HL.out.below HB4.out).below (below_regrown u i os)) ((HBk.out.below HB4.out).below (below_regrown u i os)) (short_mark (fit_lit rfl)) (by omega))
  have q6 : ∀ i os, Ans 3 #[] u i os (.bool true) := fun i os => Calls.regrown_of (vruns_any _ _ (Below.refl _ _))
  have p1 : (E == E) = true := beq_self_eq_true _
  have p2 : (B == B) = true := beq_self_eq_true _
  have p3 : (x == x) = true := beq_self_eq_true _
  have p4 : (f == f) = true := beq_self_eq_true _
  clear hE hBB HX
  go_wp2
  refine wp_region_quiet_below (by kernel_rfl) (by kernel_rfl) ?_
  repeat (first | go_big_quiet_step (first | (go_at_call 17; exact q1 _ _) | (go_at_call 18; exact q2 _ _) | (go_at_call 10; exact q3 _ _) | (go_at_call 19; exact q4 _ _) | (go_at_call 20; exact q5 _ _) | (go_at_call 3; exact q6 _ _)) | quiet_step (first | (go_at_call 17; exact q1 _ _) | (go_at_call 18; exact q2 _ _) | (go_at_call 10; exact q3 _ _) | (go_at_call 19; exact q4 _ _) | (go_at_call 20; exact q5 _ _) | (go_at_call 3; exact q6 _ _)))
  refine wpQuiet_nil ?_
  intro _ hw'
  obtain ⟨⟨dq, osq⟩, hw''⟩ := hw'
  subst hw''
  have HBv := Lib.hid (bchain HB4.out (below_regrown u dq osq))
  go_wp2
  go_ret
  exact ⟨rfl, bchain HBw.out HBv.out⟩
end Go.Proofs.Ytgcjhlnolmjdeaa
