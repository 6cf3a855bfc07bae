/- THE WALK OF InvoiceRuns, from any world. (By geniruns.py.) -/
import Derived.Test.YthcaecinjmnlbabIRl
import Derived.Deep.RegionHeld3
import Derived.Deep.RegionLaw
import Derived.Deep.DeepCutAuto
import Derived.Deep.CutBlock
set_option maxRecDepth 100000
set_option linter.unusedVariables false
namespace Go.Proofs.Ythcaecinjmnlbab
open Go.RowKit
open Mem (heap_old heap_next)
open Vt (Rt)

/-- a day and rows that lie in old memory -/
structure ISt (w wr : World) (gd : Nat) (y m d : Int) (ro : Option Addr) (n cap : Nat) (rs : List Rt) : Prop where
  bel : Below w.heap.size w wr
  day : DayC wr gd y m d
  tab : Rts wr ro n cap rs
theorem ISt.below {w wr v : World} {gd : Nat} {y m d : Int} {ro : Option Addr} {n cap : Nat} {rs : List Rt} (h : ISt w wr gd y m d ro n cap rs) (b : Below wr.heap.size wr v) : ISt w v gd y m d ro n cap rs := ⟨bchain h.bel b, h.day.below b, h.tab.below b⟩
theorem Tt.At.grow {u : World} {g : Nat} {n t s : Int} {v : Value} (h : Tt.At u g n t s v) (o : Obj) : Tt.At (u.alloc o) g n t s v := h.below ((Below.refl _ _).alloc (Nat.le_refl _) o)
theorem lns_two' (u : World) (z : Obj) (a b : Ln.T) (ha : Ln.Short a) (hb : Ln.Short b) : Ln.Ls ((u.alloc z).alloc (.cells #[.string a.text, .string a.category, .int .i64 a.count, .int .i64 a.price, .string b.text, .string b.category, .int .i64 b.count, .int .i64 b.price] 30)) (some ⟨u.heap.size + 1, 0, none⟩) 2 2 [a, b] := by
  have h := lns_two (u.alloc z) a b ha hb
  rw [show (u.alloc z).heap.size = u.heap.size + 1 by simp] at h
  exact h
theorem lns_one' (u : World) (z : Obj) (a : Ln.T) (ha : Ln.Short a) : Ln.Ls ((u.alloc z).alloc (.cells #[.string a.text, .string a.category, .int .i64 a.count, .int .i64 a.price] 30)) (some ⟨u.heap.size + 1, 0, none⟩) 1 1 [a] := by
  have h := lns_one (u.alloc z) a ha
  rw [show (u.alloc z).heap.size = u.heap.size + 1 by simp] at h
  exact h
theorem lt1 (u : World) (a : Obj) : u.heap.size < (u.alloc a).heap.size := by simp
theorem lt2 (u : World) (a b : Obj) : u.heap.size < ((u.alloc a).alloc b).heap.size := by
  rw [show ((u.alloc a).alloc b).heap.size = u.heap.size + 1 + 1 by simp]
  omega
theorem lt3 (u : World) (a b : Obj) : u.heap.size + 1 < ((u.alloc a).alloc b).heap.size := by
  rw [show ((u.alloc a).alloc b).heap.size = u.heap.size + 1 + 1 by simp]
  omega
/-- a total, its parts in memory of its own -/
def Held (W wx : World) (b : Nat) (n t s : Int) (v : Value) (ps : List Pt.T) : Prop := Below W.heap.size W wx ∧ Tt.At wx b n t s v ∧ Pt.Own wx W.heap.size v ps
theorem held_set {W w2 : World} {b B : Nat} {n t s : Int} {v v0 : Value} {ps : List Pt.T} {n0 t0 s0 : Int} (hW : Below W.heap.size W w2) (D : Tt.At w2 b n0 t0 s0 v0) (hO : Pt.Own w2 B v ps) (hb : b < B) (hw : W.heap.size ≤ b) : Held W ((((w2.setCell ⟨b, 0, none⟩ (.int .i64 n)).setCell ⟨b, 1, none⟩ (.int .i64 t)).setCell ⟨b, 2, none⟩ (.int .i64 s)).setCell ⟨b, 3, none⟩ v) b n t s v ps :=
  ⟨Mem.bset (Mem.bset (Mem.bset (Mem.bset hW hw _ _) hw _ _) hw _ _) hw _ _, D.set4 n t s v, Pt.own_mono (Pt.own_far (Pt.own_far (Pt.own_far (Pt.own_far hO hb _ _) hb _ _) hb _ _) hb _ _) (by omega)⟩
theorem held_new {W w2 : World} {B : Nat} {n t s : Int} {v : Value} {ps : List Pt.T} (hW : Below W.heap.size W w2) (hO : Pt.Own w2 B v ps) (hw : W.heap.size ≤ B) : Held W (w2.alloc (.cells #[.int .i64 n, .int .i64 t, .int .i64 s, v] 34)) w2.heap.size n t s v ps :=
  ⟨below_box hW _, Tt.at_box w2 n t s v, Pt.own_mono (Pt.own_alloc hO _) hw⟩
theorem tot_run (rs : List Rt) (ls : List Ln.T) (y m d E n t s : Int) (ps : List Pt.T) (W u : World) (gd : Nat) (w0 : World) (ro lo : Option Addr) (k l cap lc : Nat) (hE : Iv.totE rs y m d ls = E) (hT : Iv.totT rs y m d ls = ⟨n, t, s, ps⟩) (hI : ISt w0 W gd y m d ro k cap rs) (hu : Below W.heap.size W u) (hL : Ln.Ls u lo l lc ls) (hy : Fit y) (hm : Fit m) (hd : Fit d) :
    Calls Try.prog 7 #[.slice ro k cap, .agg #[.int .i64 y, .int .i64 m, .int .i64 d], .slice lo l lc] u fun e w' => ∃ v, e = .returned (.tuple #[.agg #[.int .i64 n, .int .i64 t, .int .i64 s, v], .int .i64 E]) ∧ Pt.Own w' u.heap.size v ps ∧ Below u.heap.size u w' := by
  refine (inv_total rs ls ro lo k cap l lc y m d u (hI.below hu).tab hL hy hm hd).mono ?_
  rintro e w' ⟨v, rfl, hO, b⟩
  rw [hE, hT]
  rw [hT] at hO
  exact ⟨v, rfl, hO, b⟩
theorem run_1T : Iv.totT [ra, rb, rc] 2021 1 1 [la, lb] = ⟨350, 25, 375, [pa, pb]⟩ := by
  have h1 := run_1n
  have h2 := run_1t
  have h3 := run_1g
  have h4 := run_1p
  generalize Iv.totT [ra, rb, rc] 2021 1 1 [la, lb] = T at *
  obtain ⟨a, b, c, d⟩ := T
  simp only at h1 h2 h3 h4
  rw [h1, h2, h3, h4]
theorem tot_zero {rs : List Rt} {y m d : Int} {ls : List Ln.T} (h : Iv.totE rs y m d ls ≠ 0) : Iv.totT rs y m d ls = ⟨0, 0, 0, []⟩ := if_neg h
set_option maxHeartbeats 4000000 in
theorem iruns (w0 w : World) (hw : Below w0.heap.size w0 w) :
    Calls Try.prog 8 #[] w fun e w' => e = .returned (.bool true) ∧ Below w0.heap.size w0 w' := by
  have HB0 := Lib.hid hw
  clear hw
  go_enter Try.func8, Try.ntmps8
  go_wp2_with fail
  refine (row_any ⟨#[102, 111, 111, 100]⟩ 2000 1 700 w0 _ HB0.out).mono ?_
  rintro e w1 ⟨rfl, b1⟩
  have HB1 := Lib.hid b1
  clear b1
  unfold rowV
  dsimp only
  go_wp2_with fail
  refine (row_any ⟨#[102, 111, 111, 100]⟩ 2020 7 500 w0 _ HB1.out).mono ?_
  rintro e w2 ⟨rfl, b2⟩
  have HB2 := Lib.hid b2
  clear b2
  unfold rowV
  dsimp only
  go_wp2_with fail
  refine (row_any ⟨#[115, 116, 100]⟩ 2000 1 1900 w0 _ HB2.out).mono ?_
  rintro e w3 ⟨rfl, b3⟩
  have HB3 := Lib.hid b3
  clear b3
  unfold rowV
  dsimp only
  obtain ⟨W, hW⟩ : ∃ W, (w3.alloc (.cells #[.string ra.cat, .int .i64 ra.y, .int .i64 ra.m, .int .i64 ra.d, .int .i64 ra.bp, .string rb.cat, .int .i64 rb.y, .int .i64 rb.m, .int .i64 rb.d, .int .i64 rb.bp, .string rc.cat, .int .i64 rc.y, .int .i64 rc.m, .int .i64 rc.d, .int .i64 rc.bp] 45)).alloc (.cells #[.int .i64 2021, .int .i64 1, .int .i64 1] 24) = W := ⟨_, rfl⟩
  have HI : Hid (ISt w0 W (w3.heap.size + 1) 2021 1 1 (some ⟨w3.heap.size, 0, none⟩) 3 3 [ra, rb, rc]) := Lib.hid (by
    have h1 := rts_three w3 ra rb rc short_a short_b short_c
    have h2 := dayC_box (w3.alloc (.cells #[.string ra.cat, .int .i64 ra.y, .int .i64 ra.m, .int .i64 ra.d, .int .i64 ra.bp, .string rb.cat, .int .i64 rb.y, .int .i64 rb.m, .int .i64 rb.d, .int .i64 rb.bp, .string rc.cat, .int .i64 rc.y, .int .i64 rc.m, .int .i64 rc.d, .int .i64 rc.bp] 45)) 2021 1 1
    rw [hW, show (w3.alloc (.cells #[.string ra.cat, .int .i64 ra.y, .int .i64 ra.m, .int .i64 ra.d, .int .i64 ra.bp, .string rb.cat, .int .i64 rb.y, .int .i64 rb.m, .int .i64 rb.d, .int .i64 rb.bp, .string rc.cat, .int .i64 rc.y, .int .i64 rc.m, .int .i64 rc.d, .int .i64 rc.bp] 45)).heap.size = w3.heap.size + 1 by simp] at h2
    rw [← hW] at h2 ⊢
    exact ⟨below_box (below_box HB3.out _) _, h2, h1.below ((Below.refl _ _).alloc (Nat.le_refl _) _)⟩)
  unfold ra rb rc at hW
  dsimp only at hW
  have HWs := Lib.hid hW.symm
  clear hW
  go_wp2_with fail
  rw [← HWs.out]
  clear HWs
  generalize w3.heap.size = g at *
  obtain ⟨gd, hgd⟩ : ∃ gd, g + 1 = gd := ⟨_, rfl⟩
  rw [hgd] at HI ⊢
  clear hgd
  go_cut [3, 4] (fun p e wx => ∃ (b : Nat) (v : Value), p = .pointer (some ⟨b, 0, none⟩) ∧ e = .int .i64 0 ∧ Hid (Held W wx b 350 25 375 v [pa, pb]))
  case first =>
    have lx : ∀ u, Below W.heap.size W u → Below W.heap.size W u ∧ u.cell? ⟨gd, 0, none⟩ = some (.int .i64 2021) ∧ u.cell? ⟨gd, 1, none⟩ = some (.int .i64 1) ∧ u.cell? ⟨gd, 2, none⟩ = some (.int .i64 1) := fun u h => ⟨h, (HI.out.below h).day⟩
    have I0 := HI.out
    obtain ⟨c0, c1, c2⟩ := HI.out.day
    go_region_held3 (fun u => Below W.heap.size W u ∧ u.cell? ⟨gd, 0, none⟩ = some (.int .i64 2021) ∧ u.cell? ⟨gd, 1, none⟩ = some (.int .i64 1) ∧ u.cell? ⟨gd, 2, none⟩ = some (.int .i64 1)) (first | with_reducible assumption | (apply lx; repeat (first | with_reducible assumption | with_reducible apply below_box | with_reducible apply Below.drew | with_reducible apply Mem.bset | with_reducible exact Below.refl _ _ | omega)) | fail) (first | (go_at_call 17; refine (line_any _ _ _ _ _ (Below.refl _ _)).mono ?_; rintro e wl ⟨rfl, b⟩; unfold Ln.val; dsimp only; have s1 := lx _ (bchain (And.left (by assumption)) b); have hBl := s1.1; have z1 := s1.1.size; (first | (have D := D.below b; have D0 := D.lt) | (have D : Tt.At wl _ 0 0 0 (.slice none 0 0) := (b.block _ (lt1 _ _)).trans (heap_alloc_new _ _); have D0 := D.lt) | skip)) | (go_at_call 7; refine (tot_run [ra, rb, rc] [la, lb] 2021 1 1 0 350 25 375 [pa, pb] W _ gd w0 _ _ 3 2 3 2 run_1 run_1T I0 (And.left (by assumption)) (by first | exact lns_two _ la lb short_la short_lb | exact lns_two' _ _ la lb short_la short_lb | exact (lns_two _ la lb short_la short_lb).below ((Below.refl _ _).alloc (Nat.le_refl _) _)) (fit_lit rfl) (fit_lit rfl) (fit_lit rfl)).mono ?_; rintro e wt ⟨v, rfl, hO, b⟩; have hBx := bchain (And.left (by assumption)) b; have s2 := lx _ hBx; have z2 := s2.1.size; (first | (have D := (D.grow _).below b; have DB := fun a1 => Nat.lt_trans D0 (lt1 wl a1)) | (have D : Tt.At wt _ 0 0 0 (.slice none 0 0) := (b.block _ (lt2 _ _ _)).trans (heap_old (heap_alloc_new _ _)); have DC := fun a1 a2 => lt2 wl a1 a2) | (have D : Tt.At wt _ 0 0 0 (.slice none 0 0) := (b.block _ (lt3 _ _ _)).trans (heap_next _ _ _); have DC := fun a1 a2 => lt3 wl a1 a2) | skip); have hO2 := Pt.own_mono hO (Below.size (And.left (by assumption))); obtain ⟨vo, vn, vc, rfl⟩ := Pt.own_slice hO; (try (obtain ⟨q0, q1, q2, q3⟩ := D.cells; have p0 := D.frozen 0; have p1 := D.frozen 1; have p2 := D.frozen 2; have p3 := D.frozen 3))) | fail)
    all_goals (try go_wp2_with fail)
    all_goals go_meet
    all_goals first | exact ⟨_, _, rfl, rfl, Lib.hid (held_set hBx D hO (DB _) (by omega))⟩ | exact ⟨_, _, rfl, rfl, Lib.hid (held_set hBx D hO (DC _ _) (by omega))⟩ | exact ⟨_, _, rfl, rfl, Lib.hid (held_new hBx hO2 (Nat.le_refl _))⟩
  case rest =>
    obtain ⟨b1, v1, rfl, rfl, H1⟩ := hcut
    obtain ⟨c0, c1, c2⟩ := (HI.out.below H1.out.1).day
    go_wp2_with fail
    refine (tot_run [ra, rb, rc] [] 2021 1 1 1 0 0 0 [] W _ gd w0 _ _ 3 0 3 0 run_2 (tot_zero (by rw [run_2]; omega)) HI.out H1.out.1 (Ln.ls_nil _) (fit_lit rfl) (fit_lit rfl) (fit_lit rfl)).mono ?_
    rintro e w5 ⟨v, rfl, hO, b⟩
    obtain ⟨vo, vn, vc, rfl⟩ := Pt.own_slice hO
    have HB5 : Hid (Below wc.heap.size wc (w5.alloc (.cells #[.int .i64 0, .int .i64 0, .int .i64 0, .slice vo vn vc] 34))) := Lib.hid (below_box b _)
    clear c0 c1 c2 hO b
    go_wp2_with fail
    generalize w5.alloc (.cells #[.int .i64 0, .int .i64 0, .int .i64 0, .slice vo vn vc] 34) = V0 at *
    have HH0 : Hid (ISt w0 V0 gd 2021 1 1 (some ⟨g, 0, none⟩) 3 3 [ra, rb, rc] ∧ Tt.At V0 b1 350 25 375 v1 ∧ Pt.Own V0 W.heap.size v1 [pa, pb]) := Lib.hid ⟨(HI.out.below H1.out.1).below HB5.out, H1.out.2.1.below HB5.out, Pt.own_below H1.out.2.2 HB5.out⟩
    clear HI H1 HB5
    go_cut [8] (fun e wx => e = .int .i64 10 ∧ Hid (Below V0.heap.size V0 wx))
    case first =>
      have lx : ∀ u, Below V0.heap.size V0 u → Below V0.heap.size V0 u ∧ u.cell? ⟨gd, 0, none⟩ = some (.int .i64 2021) ∧ u.cell? ⟨gd, 1, none⟩ = some (.int .i64 1) ∧ u.cell? ⟨gd, 2, none⟩ = some (.int .i64 1) := fun u h => ⟨h, (HH0.out.1.below h).day⟩
      have I0 := HH0.out.1
      obtain ⟨c0, c1, c2⟩ := HH0.out.1.day
      go_region_held3 (fun u => Below V0.heap.size V0 u ∧ u.cell? ⟨gd, 0, none⟩ = some (.int .i64 2021) ∧ u.cell? ⟨gd, 1, none⟩ = some (.int .i64 1) ∧ u.cell? ⟨gd, 2, none⟩ = some (.int .i64 1)) (first | with_reducible assumption | (apply lx; repeat (first | with_reducible assumption | with_reducible apply below_box | with_reducible apply Below.drew | with_reducible apply Mem.bset | with_reducible exact Below.refl _ _ | omega)) | fail) (first | (go_at_call 17; refine (line_any _ _ _ _ _ (Below.refl _ _)).mono ?_; rintro e wl ⟨rfl, b⟩; unfold Ln.val; dsimp only; have s1 := lx _ (bchain (And.left (by assumption)) b); have hBl := s1.1; have z1 := s1.1.size; (first | (have D := D.below b; have D0 := D.lt) | (have D : Tt.At wl _ 0 0 0 (.slice none 0 0) := (b.block _ (lt1 _ _)).trans (heap_alloc_new _ _); have D0 := D.lt) | skip)) | (go_at_call 7; refine (tot_run [ra, rb, rc] [lc] 2021 1 1 10 0 0 0 [] V0 _ gd w0 _ _ 3 1 3 1 run_3 (tot_zero (by rw [run_3]; omega)) I0 (And.left (by assumption)) (by first | exact lns_one _ lc short_lc | exact lns_one' _ _ lc short_lc | exact (lns_one _ lc short_lc).below ((Below.refl _ _).alloc (Nat.le_refl _) _)) (fit_lit rfl) (fit_lit rfl) (fit_lit rfl)).mono ?_; rintro e wt ⟨v, rfl, hO, b⟩; have hBx := bchain (And.left (by assumption)) b; have s2 := lx _ hBx; have z2 := s2.1.size; (first | (have D := (D.grow _).below b; have DB := fun a1 => Nat.lt_trans D0 (lt1 wl a1)) | (have D : Tt.At wt _ 0 0 0 (.slice none 0 0) := (b.block _ (lt2 _ _ _)).trans (heap_old (heap_alloc_new _ _)); have DC := fun a1 a2 => lt2 wl a1 a2) | (have D : Tt.At wt _ 0 0 0 (.slice none 0 0) := (b.block _ (lt3 _ _ _)).trans (heap_next _ _ _); have DC := fun a1 a2 => lt3 wl a1 a2) | skip); have hO2 := Pt.own_mono hO (Below.size (And.left (by assumption))); obtain ⟨vo, vn, vc, rfl⟩ := Pt.own_slice hO; (try (obtain ⟨q0, q1, q2, q3⟩ := D.cells; have p0 := D.frozen 0; have p1 := D.frozen 1; have p2 := D.frozen 2; have p3 := D.frozen 3))) | fail)
      all_goals (try go_wp2_with fail)
      all_goals go_meet
      all_goals first | exact ⟨rfl, Lib.hid (held_set hBx D hO (DB _) (by omega)).1⟩ | exact ⟨rfl, Lib.hid (held_set hBx D hO (DC _ _) (by omega)).1⟩ | exact ⟨rfl, Lib.hid (held_new hBx hO2 (Nat.le_refl _)).1⟩
    case rest =>
      obtain ⟨rfl, HN⟩ := hcut
      go_wp2_with fail
      rename World => V1
      have HH1 : Hid (ISt w0 V1 gd 2021 1 1 (some ⟨g, 0, none⟩) 3 3 [ra, rb, rc] ∧ Tt.At V1 b1 350 25 375 v1 ∧ Pt.Own V1 W.heap.size v1 [pa, pb]) := Lib.hid ⟨HH0.out.1.below HN.out, HH0.out.2.1.below HN.out, Pt.own_below HH0.out.2.2 HN.out⟩
      clear HH0 HN
      go_cut [10] (fun e wx => e = .int .i64 1 ∧ Hid (Below V1.heap.size V1 wx))
      case first =>
        have lx : ∀ u, Below V1.heap.size V1 u → Below V1.heap.size V1 u ∧ u.cell? ⟨gd, 0, none⟩ = some (.int .i64 2021) ∧ u.cell? ⟨gd, 1, none⟩ = some (.int .i64 1) ∧ u.cell? ⟨gd, 2, none⟩ = some (.int .i64 1) := fun u h => ⟨h, (HH1.out.1.below h).day⟩
        have I0 := HH1.out.1
        obtain ⟨c0, c1, c2⟩ := HH1.out.1.day
        go_region_held3 (fun u => Below V1.heap.size V1 u ∧ u.cell? ⟨gd, 0, none⟩ = some (.int .i64 2021) ∧ u.cell? ⟨gd, 1, none⟩ = some (.int .i64 1) ∧ u.cell? ⟨gd, 2, none⟩ = some (.int .i64 1)) (first | with_reducible assumption | (apply lx; repeat (first | with_reducible assumption | with_reducible apply below_box | with_reducible apply Below.drew | with_reducible apply Mem.bset | with_reducible exact Below.refl _ _ | omega)) | fail) (first | (go_at_call 17; refine (line_any _ _ _ _ _ (Below.refl _ _)).mono ?_; rintro e wl ⟨rfl, b⟩; unfold Ln.val; dsimp only; have s1 := lx _ (bchain (And.left (by assumption)) b); have hBl := s1.1; have z1 := s1.1.size; (first | (have D := D.below b; have D0 := D.lt) | (have D : Tt.At wl _ 0 0 0 (.slice none 0 0) := (b.block _ (lt1 _ _)).trans (heap_alloc_new _ _); have D0 := D.lt) | skip)) | (go_at_call 7; refine (tot_run [ra, rb, rc] [ld] 2021 1 1 1 0 0 0 [] V1 _ gd w0 _ _ 3 1 3 1 run_4 (tot_zero (by rw [run_4]; omega)) I0 (And.left (by assumption)) (by first | exact lns_one _ ld short_ld | exact lns_one' _ _ ld short_ld | exact (lns_one _ ld short_ld).below ((Below.refl _ _).alloc (Nat.le_refl _) _)) (fit_lit rfl) (fit_lit rfl) (fit_lit rfl)).mono ?_; rintro e wt ⟨v, rfl, hO, b⟩; have hBx := bchain (And.left (by assumption)) b; have s2 := lx _ hBx; have z2 := s2.1.size; (first | (have D := (D.grow _).below b; have DB := fun a1 => Nat.lt_trans D0 (lt1 wl a1)) | (have D : Tt.At wt _ 0 0 0 (.slice none 0 0) := (b.block _ (lt2 _ _ _)).trans (heap_old (heap_alloc_new _ _)); have DC := fun a1 a2 => lt2 wl a1 a2) | (have D : Tt.At wt _ 0 0 0 (.slice none 0 0) := (b.block _ (lt3 _ _ _)).trans (heap_next _ _ _); have DC := fun a1 a2 => lt3 wl a1 a2) | skip); have hO2 := Pt.own_mono hO (Below.size (And.left (by assumption))); obtain ⟨vo, vn, vc, rfl⟩ := Pt.own_slice hO; (try (obtain ⟨q0, q1, q2, q3⟩ := D.cells; have p0 := D.frozen 0; have p1 := D.frozen 1; have p2 := D.frozen 2; have p3 := D.frozen 3))) | fail)
        all_goals (try go_wp2_with fail)
        all_goals go_meet
        all_goals first | exact ⟨rfl, Lib.hid (held_set hBx D hO (DB _) (by omega)).1⟩ | exact ⟨rfl, Lib.hid (held_set hBx D hO (DC _ _) (by omega)).1⟩ | exact ⟨rfl, Lib.hid (held_new hBx hO2 (Nat.le_refl _)).1⟩
      case rest =>
        obtain ⟨rfl, HN⟩ := hcut
        go_wp2_with fail
        rename World => V2
        have HH2 : Hid (ISt w0 V2 gd 2021 1 1 (some ⟨g, 0, none⟩) 3 3 [ra, rb, rc] ∧ Tt.At V2 b1 350 25 375 v1 ∧ Pt.Own V2 W.heap.size v1 [pa, pb]) := Lib.hid ⟨HH1.out.1.below HN.out, HH1.out.2.1.below HN.out, Pt.own_below HH1.out.2.2 HN.out⟩
        clear HH1 HN
        go_cut [12] (fun e wx => e = .int .i64 7 ∧ Hid (Below V2.heap.size V2 wx))
        case first =>
          have lx : ∀ u, Below V2.heap.size V2 u → Below V2.heap.size V2 u ∧ u.cell? ⟨gd, 0, none⟩ = some (.int .i64 2021) ∧ u.cell? ⟨gd, 1, none⟩ = some (.int .i64 1) ∧ u.cell? ⟨gd, 2, none⟩ = some (.int .i64 1) := fun u h => ⟨h, (HH2.out.1.below h).day⟩
          have I0 := HH2.out.1
          obtain ⟨c0, c1, c2⟩ := HH2.out.1.day
          go_region_held3 (fun u => Below V2.heap.size V2 u ∧ u.cell? ⟨gd, 0, none⟩ = some (.int .i64 2021) ∧ u.cell? ⟨gd, 1, none⟩ = some (.int .i64 1) ∧ u.cell? ⟨gd, 2, none⟩ = some (.int .i64 1)) (first | with_reducible assumption | (apply lx; repeat (first | with_reducible assumption | with_reducible apply below_box | with_reducible apply Below.drew | with_reducible apply Mem.bset | with_reducible exact Below.refl _ _ | omega)) | fail) (first | (go_at_call 17; refine (line_any _ _ _ _ _ (Below.refl _ _)).mono ?_; rintro e wl ⟨rfl, b⟩; unfold Ln.val; dsimp only; have s1 := lx _ (bchain (And.left (by assumption)) b); have hBl := s1.1; have z1 := s1.1.size; (first | (have D := D.below b; have D0 := D.lt) | (have D : Tt.At wl _ 0 0 0 (.slice none 0 0) := (b.block _ (lt1 _ _)).trans (heap_alloc_new _ _); have D0 := D.lt) | skip)) | (go_at_call 7; refine (tot_run [ra, rb, rc] [le] 2021 1 1 7 0 0 0 [] V2 _ gd w0 _ _ 3 1 3 1 run_5 (tot_zero (by rw [run_5]; omega)) I0 (And.left (by assumption)) (by first | exact lns_one _ le short_le | exact lns_one' _ _ le short_le | exact (lns_one _ le short_le).below ((Below.refl _ _).alloc (Nat.le_refl _) _)) (fit_lit rfl) (fit_lit rfl) (fit_lit rfl)).mono ?_; rintro e wt ⟨v, rfl, hO, b⟩; have hBx := bchain (And.left (by assumption)) b; have s2 := lx _ hBx; have z2 := s2.1.size; (first | (have D := (D.grow _).below b; have DB := fun a1 => Nat.lt_trans D0 (lt1 wl a1)) | (have D : Tt.At wt _ 0 0 0 (.slice none 0 0) := (b.block _ (lt2 _ _ _)).trans (heap_old (heap_alloc_new _ _)); have DC := fun a1 a2 => lt2 wl a1 a2) | (have D : Tt.At wt _ 0 0 0 (.slice none 0 0) := (b.block _ (lt3 _ _ _)).trans (heap_next _ _ _); have DC := fun a1 a2 => lt3 wl a1 a2) | skip); have hO2 := Pt.own_mono hO (Below.size (And.left (by assumption))); obtain ⟨vo, vn, vc, rfl⟩ := Pt.own_slice hO; (try (obtain ⟨q0, q1, q2, q3⟩ := D.cells; have p0 := D.frozen 0; have p1 := D.frozen 1; have p2 := D.frozen 2; have p3 := D.frozen 3))) | fail)
          all_goals (try go_wp2_with fail)
          all_goals go_meet
          all_goals first | exact ⟨rfl, Lib.hid (held_set hBx D hO (DB _) (by omega)).1⟩ | exact ⟨rfl, Lib.hid (held_set hBx D hO (DC _ _) (by omega)).1⟩ | exact ⟨rfl, Lib.hid (held_new hBx hO2 (Nat.le_refl _)).1⟩
        case rest =>
          obtain ⟨rfl, HN⟩ := hcut

          rename World => V3
          have HH3 : Hid (ISt w0 V3 gd 2021 1 1 (some ⟨g, 0, none⟩) 3 3 [ra, rb, rc] ∧ Tt.At V3 b1 350 25 375 v1 ∧ Pt.Own V3 W.heap.size v1 [pa, pb]) := Lib.hid ⟨HH2.out.1.below HN.out, HH2.out.2.1.below HN.out, Pt.own_below HH2.out.2.2 HN.out⟩
          clear HH2 HN
          obtain ⟨ao1, cap1, hv1, hL1, _⟩ := Pt.own_ls HH3.out.2.2 (by
            intro r hr
            simp only [List.mem_cons, List.not_mem_nil, or_false] at hr
            rcases hr with rfl | rfl
            · exact short_pa
            · exact short_pb)
          have hv2 : v1 = .slice ao1 2 cap1 := hv1
          subst hv2
          obtain ⟨Y, hY⟩ : ∃ Y, (V3.alloc (.cells #[.string pa.cat, .int .i64 pa.bp, .int .i64 pa.net, .int .i64 pa.tax, .string pb.cat, .int .i64 pb.bp, .int .i64 pb.net, .int .i64 pb.tax] 55)).alloc (.cells #[.int .i64 350, .int .i64 25, .int .i64 375, .slice (some ⟨V3.heap.size, 0, none⟩) 2 2] 34) = Y := ⟨_, rfl⟩
          have hb1 : Below V3.heap.size V3 (V3.alloc (.cells #[.string pa.cat, .int .i64 pa.bp, .int .i64 pa.net, .int .i64 pa.tax, .string pb.cat, .int .i64 pb.bp, .int .i64 pb.net, .int .i64 pb.tax] 55)) := (Below.refl _ _).alloc (Nat.le_refl _) _
          have hb2 := Tt.below_own (V3.alloc (.cells #[.string pa.cat, .int .i64 pa.bp, .int .i64 pa.net, .int .i64 pa.tax, .string pb.cat, .int .i64 pb.bp, .int .i64 pb.net, .int .i64 pb.tax] 55)) 350 25 375 (.slice (some ⟨V3.heap.size, 0, none⟩) 2 2)
          have hA2 := Tt.at_box (V3.alloc (.cells #[.string pa.cat, .int .i64 pa.bp, .int .i64 pa.net, .int .i64 pa.tax, .string pb.cat, .int .i64 pb.bp, .int .i64 pb.net, .int .i64 pb.tax] 55)) 350 25 375 (.slice (some ⟨V3.heap.size, 0, none⟩) 2 2)
          rw [show (V3.alloc (.cells #[.string pa.cat, .int .i64 pa.bp, .int .i64 pa.net, .int .i64 pa.tax, .string pb.cat, .int .i64 pb.bp, .int .i64 pb.net, .int .i64 pb.tax] 55)).heap.size = V3.heap.size + 1 by simp] at hA2
          have hL2 := (pts_two V3 pa pb short_pa short_pb).below hb2
          have hb3 := bchain hb1 hb2
          rw [show Tt.box (V3.alloc (.cells #[.string pa.cat, .int .i64 pa.bp, .int .i64 pa.net, .int .i64 pa.tax, .string pb.cat, .int .i64 pb.bp, .int .i64 pb.net, .int .i64 pb.tax] 55)) 350 25 375 (.slice (some ⟨V3.heap.size, 0, none⟩) 2 2) = Y from hY] at hA2 hL2 hb3
          have HF : Hid (Below w0.heap.size w0 Y ∧ Pt.Ls Y ao1 2 cap1 [pa, pb] ∧ Pt.Ls Y (some ⟨V3.heap.size, 0, none⟩) 2 2 [pa, pb]) := Lib.hid ⟨bchain HH3.out.1.bel hb3, hL1.below hb3, hL2⟩
          have HA1 := Lib.hid (HH3.out.2.1.below hb3)
          have HA2 := Lib.hid hA2
          unfold pa pb at hY
          dsimp only at hY
          have HY := Lib.hid hY
          clear hb1 hb2 hb3 hA2 hL1 hL2 hv1 HH3 hY
          obtain ⟨a0, a1, a2, a3⟩ := HA1.out.cells
          obtain ⟨e0, e1, e2, e3⟩ := HA2.out.cells
          rw [← HY.out] at a0 a1 a2 a3 e0 e1 e2 e3
          go_wp2_with fail
          rw [HY.out]
          refine (totals_same ⟨350, 25, 375, [pa, pb]⟩ ao1 _ 2 cap1 2 w0 _ HF.out.1 HF.out.2.1 HF.out.2.2).mono ?_
          rintro e w9 ⟨rfl, b9⟩
          have HB9 := Lib.hid b9
          clear b9 a0 a1 a2 a3 e0 e1 e2 e3 HY
          go_wp2_with fail
          go_ret
          exact ⟨rfl, HB9.out⟩
theorem invoiceRuns_walk (w : World) : Calls Try.prog 8 #[] w fun e w' => e = .returned (.bool true) ∧ Below w.heap.size w w' := iruns w w (Below.refl _ _)
end Go.Proofs.Ythcaecinjmnlbab
