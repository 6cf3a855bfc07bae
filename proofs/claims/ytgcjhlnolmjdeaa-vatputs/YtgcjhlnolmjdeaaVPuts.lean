/- THE WALK OF VatPuts. -/
import Derived.Test.YtgcjhlnolmjdeaaVTells
import Derived.Deep.RegionHeld3
namespace Go.Proofs.Ytgcjhlnolmjdeaa
open Go.RowKit
open Vt (Rt)
open Go.Sort (grow)

/-- rows that may be written lie behind a world's end -/
def Blk (u : World) (B : Nat) (ao : Option Addr) (n : Nat) : Prop := 0 < n → ∃ g cur, ao = some ⟨g, 0, none⟩ ∧ B ≤ g ∧ u.heap[g]? = some (.cells cur 25 (0, 0)) ∧ n * 5 ≤ cur.size
theorem own_blk {w : World} {B : Nat} {ao : Option Addr} {n cap : Nat} {xs : List Rt} (h : OwnR w B (.slice ao n cap) xs) (hn : n = xs.length) : Blk w B ao n := by
  intro h0
  rcases h.2 with ⟨h', h2⟩ | ⟨g, c, cur, h', hb, hg, hnc, _, hcs, _⟩
  · omega
  · injection h' with e1 e2 e3
    exact ⟨g, cur, e1, hb, hg, by rw [hcs]; exact Nat.mul_le_mul_right 5 (by omega)⟩
theorem Blk.below {u v : World} {B n : Nat} {ao : Option Addr} (h : Blk u B ao n) (k : Below u.heap.size u v) : Blk v B ao n := by
  intro h0
  obtain ⟨g, cur, e, hb, hg, hc⟩ := h h0
  have hl : g < u.heap.size := by
    obtain ⟨hl, _⟩ := Array.getElem?_eq_some_iff.1 hg
    exact hl
  exact ⟨g, cur, e, hb, (k.block g hl).trans hg, hc⟩
set_option maxHeartbeats 4000000 in
theorem vatPuts_walk (rs : List Rt) (ao : Option Addr) (n cap : Nat) (r : Rt) (w : World) (hR : Rts w ao n cap rs) (hs : Short r) :
    Calls Try.prog 5 #[.slice ao n cap, rowV r] w fun e w' => e = .returned (.bool true) ∧ Below w.heap.size w w' := by
  have HR := Lib.hid hR
  have HS := Lib.hid hs
  clear hR hs
  obtain ⟨W, hW, hbW, hCr⟩ := boxed1 w r
  have HBW := Lib.hid hbW
  have HCr := Lib.hid hCr
  clear hbW hCr
  unfold rowV
  go_enter Try.func5, Try.ntmps5
  go_wp2_with fail
  refine (few_any rs ao n cap _ (HR.out.below HBW.out)).mono ?_
  rintro e w1 ⟨⟨k, rfl, hL, hk⟩, hw1⟩
  subst hw1
  clear hW
  have HL := Lib.hid hL
  clear hL
  obtain ⟨L, hLL⟩ : ∃ L, rs.take 40 = L := ⟨_, rfl⟩
  rw [hLL] at HL
  clear hLL
  have hcap := HL.out.reach
  have hfit := HL.out.fits
  go_wp2_with fail
  refine (roomy_rows L (markR 8) ao k cap _ HL.out (by omega)).mono ?_
  rintro e w2 ⟨rfl, hB2, b2⟩
  have HBk := Lib.hid hB2
  have hFull := full_rts hB2 HL.out.len (by omega) HL.out.short (short_mark (fit_lit rfl))
  obtain ⟨hs1, hO⟩ := rts_to hFull k (by omega)
  rw [List.take_left' HL.out.len.symm] at hO
  have HO := Lib.hid hO
  replace HL := Lib.hid (HL.out.below b2)
  replace HCr := Lib.hid (HCr.out.below b2)
  have HBw := Lib.hid (bchain HBW.out b2)
  clear hB2 hFull hO b2 HBW
  generalize w1.heap.size + 1 = g at *
  have HPs : Hid (∀ a ∈ Vt.putR L r, Short a) := Lib.hid (fun a ha => by
    rcases Vt.putR_mem ha with rfl | ha
    · exact HS.out
    · exact HL.out.short a ha)
  have lx : ∀ y, Below w2.heap.size w2 y → y.cell? ⟨w.heap.size, 0, none⟩ = some (.string r.cat) ∧ y.cell? ⟨w.heap.size, 1, none⟩ = some (.int .i64 r.y) ∧ y.cell? ⟨w.heap.size, 2, none⟩ = some (.int .i64 r.m) ∧ y.cell? ⟨w.heap.size, 3, none⟩ = some (.int .i64 r.d) ∧ y.cell? ⟨w.heap.size, 4, none⟩ = some (.int .i64 r.bp) := fun y hy => HCr.out.below hy
  obtain ⟨d0, d1, d2, d3, d4⟩ := lx w2.drew (Below.refl _ _).drew
  go_wp2
  go_region_held3 (fun y => Below w2.heap.size w2 y) (first | assumption | exact (Below.refl _ _).drew) (first | (go_at_call 12; refine (vat_put L (some ⟨g, 0, none⟩) k (k + 80) r _ (HO.out.below (by assumption)) HS.out).mono ?_; rintro e w3 ⟨v, rfl, o3, b3⟩; obtain ⟨va, vc, rfl, hV, _⟩ := own_rts o3 HPs.out; have b3' : Below w2.heap.size w2 w3 := bchain (by assumption) b3; have HK3 : Hid (Blk w3 w2.heap.size va (Vt.putR L r).length) := Lib.hid (own_blk (own_mono o3 (Nat.le_refl _)) rfl); have HV := Lib.hid hV; clear hV o3))
  have HB3 := Lib.hid b3'
  obtain ⟨a0, a1, a2, a3, a4⟩ := lx w3 b3'
  obtain ⟨E, hE⟩ : ∃ E, Vt.putE L r = E := ⟨_, rfl⟩
  have HE := Lib.hid hE
  rw [hE]
  clear b3 b3' d0 d1 d2 d3 d4 hE
  go_wp2_with fail
  refine (refPut_any L ao k cap r _ (HL.out.below HB3.out) HS.out).mono ?_
  rintro e w4 ⟨v2, rfl, o4, b4⟩
  obtain ⟨vb, vd, rfl, hV2, _⟩ := own_rts o4 HPs.out
  have HV2 := Lib.hid hV2
  have HB4 := Lib.hid (bchain HB3.out b4)
  replace HV := Lib.hid (HV.out.below b4)
  replace HK3 := Lib.hid (HK3.out.below b4)
  clear a0 a1 a2 a3 a4 o4 b4 hV2 lx
  rw [HE.out]
  obtain ⟨P, hP⟩ : ∃ P, Vt.putR L r = P := ⟨_, rfl⟩
  rw [hP] at HV HV2 HK3 ⊢
  clear hP HPs
  have hpc := HV.out.reach
  have hpf := HV.out.fits
  generalize P.length = pn at *
  have hee : (E != E) = false := bne_self_eq_false _
  go_wp2_with fail
  refine (same_rows P va vb pn vc vd w4 _ (Below.refl _ _) HV.out HV2.out).mono ?_
  rintro e w5 ⟨rfl, b5⟩
  have HB5 := Lib.hid (bchain HB4.out b5)
  replace HK3 := Lib.hid (HK3.out.below b5)
  clear b5 HV HV2
  go_wp2_with fail
  go_loopw [10] (fun i wr => ∃ j : Nat, j ≤ pn ∧ i = .int .i64 j ∧ Hid (Below w2.heap.size w2 wr) ∧ Hid (Blk wr w2.heap.size va pn)) (fun i _ => pn - (intOf i).toNat)
  case atStart => exact ⟨0, by omega, rfl, HB5, HK3⟩
  case round =>
    rename World => wz
    obtain ⟨j, hj, rfl, HB, HK⟩ := hrel
    by_cases hlt : j < pn
    · obtain ⟨gm, cur, rfl, hgm, hcur, hsz⟩ := HK.out (by omega)
      have hcell : wz.cell? ⟨gm, j * 5 + 4, none⟩ = some (cur[j * 5 + 4]'(by omega)) := by
        rw [cell_of_row wz gm _ _ _ _ hcur]
        simp
      have hfz : wz.frozen? ⟨gm, j * 5 + 4, none⟩ = false := frozen_of_row wz gm _ _ _ hcur
      generalize cur[j * 5 + 4]'(by omega) = old at hcell
      have HK' : Hid (∀ x, Blk (wz.setCell ⟨gm, j * 5 + 4, none⟩ x) w2.heap.size (some ⟨gm, 0, none⟩) pn) := Lib.hid fun x _ => ⟨gm, _, rfl, hgm, heap_setCell_same wz gm _ _ _ x hcur, by simpa using hsz⟩
      have HB' : Hid (∀ x, Below w2.heap.size w2 (wz.setCell ⟨gm, j * 5 + 4, none⟩ x)) := Lib.hid fun x => HB.out.setCell hgm x
      clear hcur hsz
      go_wp2
      go_roundw
      case rel => exact ⟨j + 1, by omega, by go_num, Lib.hid (HB'.out _), Lib.hid (HK'.out _)⟩
      case measure => simp [intOf]; omega
    · obtain rfl : j = pn := by omega
      go_wp2_with fail
      refine (intact_rows L (markR 8) ao g k cap w2 _ HB.out (HL.out.below HB.out) (HBk.out.below HB.out) (short_mark (fit_lit rfl)) (by omega)).mono ?_
      rintro e w6 ⟨rfl, b6⟩
      have HB6 := Lib.hid b6
      clear b6
      go_wp2_with fail
      refine (vruns_any w2 _ HB6.out).mono ?_
      rintro e w7 ⟨rfl, b7⟩
      have HB7 := Lib.hid b7
      clear b7
      go_wp2_with fail
      go_ret
      exact ⟨rfl, bchain HBw.out HB7.out⟩
end Go.Proofs.Ytgcjhlnolmjdeaa
