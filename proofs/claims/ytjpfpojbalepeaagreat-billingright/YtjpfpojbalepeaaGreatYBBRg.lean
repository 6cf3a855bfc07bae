/- THE WALK OF BillingRight. -/
import Derived.Test.YtjpfpojbalepeaaGreatZB14
import Derived.Test.YtjpfpojbalepeaaGreatZB6
set_option maxRecDepth 100000
set_option linter.unusedVariables false
namespace Go.Proofs.YtjpfpojbalepeaaGreat
open Go.RowKit
open Mem
set_option maxHeartbeats 4000000 in
theorem billingRight_walk (rs0 : List Ca.T) (cs0 : List Bl.Cl) (ao0 : Option Addr) (n0 cap0 : Nat) (w : World) (hC : Bl.Cs w ao0 n0 cap0 rs0 cs0) :
  Calls Tryz.prog 6 #[.slice ao0 n0 cap0] w fun e w' => e = .returned (.bool true) ∧ Below w.heap.size w w' := by
 have HC := Lib.hid hC
 clear hC
 go_enter Tryz.func6, Tryz.ntmps6
 go_wp2_with fail
 refine (bil_new w _ (Below.refl _ _)).mono ?_
 rintro e w1 ⟨h0, rfl, hL0, b1⟩
 have hb2 := Bl.below_own w1 h0
 have HA0 := Lib.hid (Bl.at_box w1 h0)
 have HL0 := Lib.hid ((hL0.below hb2).fresh (w1.heap.size + 1))
 have HB1 := Lib.hid (bchain b1 hb2)
 have HG := Lib.hid (b1.size)
 clear hL0 b1 hb2
 go_wp2_with (first | ((with_reducible apply Bl.wpl_store (h := h0) (g := w1.heap.size)); rfl; rfl; rfl; rfl; rfl; rfl))
 refine (law_fewL rs0 cs0 60 ao0 n0 cap0 w _ HC.out HB1.out (by omega)).mono ?_
 rintro e w3 ⟨ao, n, cap, rs, rfl, hn60, hLs, hin, hE, b3⟩
 rw [Bl.box_size] at hin
 have hcap := hLs.reach
 have hfit := hLs.fits
 have HS0 : Hid (BSt w w3 w1.heap.size h0 Bl.new ao n cap rs (Bl.fewL 60 cs0)) := Lib.hid ⟨bchain HB1.out b3, HG.out, HA0.out.below b3, HL0.out.below b3, Bl.right_new, hLs, hin, hE, Bl.few_lines⟩
 clear hLs hin hE b3 HA0 HL0 HB1 HG
 generalize w1.heap.size = g at *
 generalize Bl.fewL 60 cs0 = cs at *
 go_wp2_with fail
 go_loopw [4] (fun j wr => ∃ (k : Nat) (h : Bl.Sv) (s : Bl.St), k ≤ n ∧ j = .int .i64 k ∧ Hid (BSt w wr g h s ao n cap rs cs)) (fun j _ => n - (intOf j).toNat)
 case atStart => exact ⟨0, h0, Bl.new, by omega, rfl, HS0⟩
 case round =>
  obtain ⟨k, h, s, hk, rfl, HS⟩ := hrel
  by_cases hlt : k < n
  ·
   obtain ⟨b, off, rfl⟩ := HS.out.ls.at (by omega)
   have hkr : k < rs.length := HS.out.len.1 ▸ hlt
   have hkc : k < cs.length := HS.out.len.2 ▸ hkr
   have hrow := HS.out.ls.row k hkr
   have HCk := Lib.hid (HS.out.each.each k hkr)
   have HFk := Lib.hid (And.intro (HS.out.few cs[k] (List.getElem_mem hkc)) (HS.out.ls.short rs[k] (List.getElem_mem hkr)))
   generalize rs[k] = r at hrow HCk HFk
   generalize cs[k] = c at HCk HFk
   go_upto_region 6 with fail
   go_cut [4] (fun j wx => ∃ (h : Bl.Sv) (s : Bl.St), j = .int .i64 k ∧ Hid (BSt w wx g h s (some ⟨b, off, none⟩) n cap rs cs))
   case first =>
    obtain ⟨x0, x1, x2, x3, x4, x5⟩ := HS.out.box.cells
    obtain ⟨g0, g1, g2, g3, g4, g5, g6, g7, g8, g9, g10, g11, g12, g13, g14, g15, g16⟩ := hrow
    go_region_with (go_at_call 17; refine (bil_apply s c h r wr _ (by first | exact Below.refl _ _ | exact (Below.refl _ _).drew) (by first | exact HS.out.lies.lies | exact (HS.out.lies.below (Below.refl _ _).drew).lies) (by first | exact HCk.out.below HS.out.bel | exact (HCk.out.below HS.out.bel).below (Below.refl _ _).drew) HFk.out.2 HS.out.right HFk.out.1).mono ?_; rintro e u ⟨h', rfl, hL', b'⟩; have hBx := HS.out.box.below b'; obtain ⟨y0, y1, y2, y3, y4, y5⟩ := hBx.cells; have f0 := hBx.frozen 0; have f1 := hBx.frozen 1; have f2 := hBx.frozen 2; have f3 := hBx.frozen 3; have f4 := hBx.frozen 4; have f5 := hBx.frozen 5; have HN := Lib.hid (HS.out.put b' hL' (HS.out.right.applied c)); unfold Bl.Sv.val Bl.sl; clear hL' b' hBx)
    all_goals (try go_wp2_with fail)
    all_goals go_meet
    all_goals exact ⟨h', _, rfl, HN⟩
   case rest =>
    rename World => wx
    obtain ⟨h2, s2, rfl, HS2⟩ := hcut
    clear HS HCk HFk
    obtain ⟨x0, x1, x2, x3, x4, x5⟩ := HS2.out.box.cells
    go_wp2_with fail
    refine (bil_right s2 h2 wx _ (Below.refl _ _) HS2.out.lies.lies HS2.out.right).mono ?_
    rintro e w5 ⟨rfl, b5⟩
    have HS3 := Lib.hid (HS2.out.below b5)
    clear x0 x1 x2 x3 x4 x5 b5 HS2
    obtain ⟨x0, x1, x2, x3, x4, x5⟩ := HS3.out.box.cells
    go_wp2_with fail
    refine (post_balanced s2.book h2.book.ao h2.book.n h2.book.cap w5 _ (Below.refl _ _) HS3.out.lies.book (by rw [HS3.out.lies.book.len]; exact HS3.out.right.book_len)).mono ?_
    rintro e w6 ⟨rfl, b6⟩
    rw [HS3.out.right.balanced]
    have HS4 := Lib.hid (HS3.out.below b6)
    clear x0 x1 x2 x3 x4 x5 b6 HS3
    go_wp2_with fail
    go_roundw
    case rel => exact ⟨k + 1, h2, s2, by omega, by go_num, HS4⟩
    case measure => simp [intOf]; omega
  ·
   obtain rfl : k = n := by omega
   obtain ⟨x0, x1, x2, x3, x4, x5⟩ := HS.out.box.cells
   go_wp2_with fail
   refine (bil_right s h wr _ (Below.refl _ _) HS.out.lies.lies HS.out.right).mono ?_
   rintro e w5 ⟨rfl, b5⟩
   have HB5 := Lib.hid (bchain HS.out.bel b5)
   clear x0 x1 x2 x3 x4 x5 b5
   go_wp2_with fail
   refine (bruns w _ HB5.out).mono ?_
   rintro e w6 ⟨rfl, b6⟩
   have HB6 := Lib.hid b6
   clear b6
   go_wp2_with fail
   go_ret
   exact ⟨rfl, HB6.out⟩
end Go.Proofs.YtjpfpojbalepeaaGreat
