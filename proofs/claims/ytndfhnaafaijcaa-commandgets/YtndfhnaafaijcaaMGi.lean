/- MERGED: CdFp, CdF. (By mg.py.) -/
import Derived.Test.YtndfhnaafaijcaaMGd
import Derived.Test.YtndfhnaafaijcaaMGe
import Derived.Test.YtndfhnaafaijcaaMGg
import Derived.Test.YtndfhnaafaijcaaMGh
/- CONTRACTS OF PACKAGE command: Flat of a Post. -/
set_option linter.unusedVariables false
set_option maxRecDepth 100000
namespace Go.Proofs.Ytndfhnaafaijcaa
open Go.RowKit
open Mem

/-- lines of the call's own, that may be written over -/
structure Ln.Free (w : World) (B : Nat) (ao : Option Addr) (n cap : Nat) (ls : List Ln.T) : Prop where
  ls : Ln.Ls w ao n cap ls
  new : ∀ ad, ao = some ad → ∃ g, ad = ⟨g, 0, none⟩ ∧ B ≤ g ∧ g < w.heap.size ∧ ∀ o, w.frozen? ⟨g, o, none⟩ = false
theorem Ln.free_nil (w : World) (B : Nat) : Ln.Free w B none 0 0 [] := ⟨Ln.ls_nil w, fun ad h => by cases h⟩
theorem Ln.own_free {w : World} {B : Nat} {v : Value} {xs : List Ln.T} (h : Ln.Own w B v xs) (hs : ∀ r ∈ xs, Ln.Short r) : ∃ ao cap, v = .slice ao xs.length cap ∧ Ln.Free w B ao xs.length cap xs := by
  obtain ⟨ao, cap, rfl, hls, hnew⟩ := Ln.own_ls h hs
  refine ⟨ao, cap, rfl, hls, fun ad e => ?_⟩
  subst e
  rcases h.2 with ⟨h', _⟩ | ⟨g, cap', cur, h', hb, hg, _⟩
  · cases h'
  · simp only [Value.slice.injEq, Option.some.injEq] at h'
    obtain ⟨hl, _⟩ := Array.getElem?_eq_some_iff.1 hg
    exact ⟨g, h'.1, hb, hl, fun o => frozen_of_row w g o _ _ hg⟩
theorem Ln.Free.mono {w : World} {B C : Nat} {ao : Option Addr} {n cap : Nat} {xs : List Ln.T} (h : Ln.Free w B ao n cap xs) (hc : C ≤ B) : Ln.Free w C ao n cap xs :=
  ⟨h.ls, fun ad e => by obtain ⟨g, h1, h2, h3⟩ := h.new ad e; exact ⟨g, h1, by omega, h3⟩⟩
theorem Ln.Free.apart {w : World} {B p : Nat} {ao : Option Addr} {n cap : Nat} {xs : List Ln.T} (h : Ln.Free w B ao n cap xs) (hp : p < B) : ∀ b off, ao = some ⟨b, off, none⟩ → b ≠ p := by
  intro b off e
  obtain ⟨g, h1, h2, _⟩ := h.new _ e
  cases h1
  omega
theorem Ln.Free.upd {w u : World} {B p : Nat} {ao : Option Addr} {n cap : Nat} {xs : List Ln.T} (h : Ln.Free w B ao n cap xs) (k : Upd w p u) (hp : p < B) : Ln.Free u B ao n cap xs := by
  refine ⟨h.ls.upd k (h.apart hp), fun ad e => ?_⟩
  obtain ⟨g, h1, h2, h3, h4⟩ := h.new ad e
  exact ⟨g, h1, h2, Nat.lt_of_lt_of_le h3 k.size, fun o => by rw [k.frozen _ _ h3]; exact h4 o⟩
theorem Ln.Free.below {w u : World} {B : Nat} {ao : Option Addr} {n cap : Nat} {xs : List Ln.T} (h : Ln.Free w B ao n cap xs) (k : Below w.heap.size w u) : Ln.Free u B ao n cap xs := by
  refine ⟨h.ls.below k, fun ad e => ?_⟩
  obtain ⟨g, h1, h2, h3, h4⟩ := h.new ad e
  exact ⟨g, h1, h2, Nat.lt_of_lt_of_le h3 k.size, fun o => by rw [(bcell k).2 _ _ h3]; exact h4 o⟩
theorem Ln.Free.row {w : World} {B g : Nat} {cs : Array Value} {ao : Option Addr} {n cap : Nat} {xs : List Ln.T} (h : Ln.Free w B ao n cap xs) (hp : g < B) : Ln.Free (w.setRow g cs) B ao n cap xs := by
  refine ⟨h.ls.setRow (h.apart hp), fun ad e => ?_⟩
  obtain ⟨b, h1, h2, h3, h4⟩ := h.new ad e
  exact ⟨b, h1, h2, by simpa [World.setRow] using h3, fun o => by
    rw [show (w.setRow g cs).frozen? ⟨b, o, none⟩ = w.frozen? ⟨b, o, none⟩ from World.frozen?_of_block (w := w) (setRow_other w g b cs (by omega))]
    exact h4 o⟩
theorem flat_box (series : ByteArray) (y m d : Int) (ao : Option Addr) (n cap : Nat) (w : World) : ∃ W, (((((w.alloc (.cells #[(.iface 49 (.agg #[.string series, .int .i64 y, .int .i64 m, .int .i64 d, .slice ao n cap]))] 25)).alloc (.cells #[.int .i64 0, .string ⟨#[]⟩, .int .i64 0, .string ⟨#[]⟩, .int .i64 0, .int .i64 0, .int .i64 0, .int .i64 0, .int .i64 0, .int .i64 0, .int .i64 0, .slice none 0 0, .string ⟨#[]⟩, .int .i64 0, .int .i64 0] 37)).alloc (.cells #[(.iface 49 (.agg #[.string series, .int .i64 y, .int .i64 m, .int .i64 d, .slice ao n cap]))] 25)).alloc (.cells #[.int .i64 4, .string ⟨#[]⟩, .int .i64 0, .string ⟨#[]⟩, .int .i64 0, .int .i64 0, .int .i64 0, .int .i64 0, .int .i64 0, .int .i64 0, .int .i64 0, .slice none 0 0, .string ⟨#[]⟩, .int .i64 0, .int .i64 0] 37)).alloc (.cells #[.string series, .int .i64 y, .int .i64 m, .int .i64 d, .slice ao n cap] 49)) = W ∧ Below w.heap.size w W ∧ W.heap.size = w.heap.size + 5 ∧
    PostAt W (w.heap.size + 1 + 1 + 1 + 1) series y m d (.slice ao n cap) ∧ Cm.Blk W (w.heap.size + 1 + 1 + 1) { Cm.T.zero with kind := 4 } ∧ Cm.Blk W (w.heap.size + 1) Cm.T.zero ∧ W.cell? ⟨w.heap.size, 0, none⟩ = some (.iface 49 (.agg #[.string series, .int .i64 y, .int .i64 m, .int .i64 d, .slice ao n cap])) := by
  refine ⟨_, rfl, below_box (below_box (below_box (below_box (below_box (Below.refl _ _) _) _) _) _) _, by simp, ⟨by simp [go_sem], by simp [go_sem], by simp [go_sem], by simp [go_sem], by simp [go_sem], fun o => by simp [go_sem]⟩, heap_old ?_, heap_old (heap_old (heap_old (Mem.heap_next _ _ _))), by simp [go_sem]⟩
  have h := heap_alloc_new (((w.alloc (.cells #[(.iface 49 (.agg #[.string series, .int .i64 y, .int .i64 m, .int .i64 d, .slice ao n cap]))] 25)).alloc (.cells #[.int .i64 0, .string ⟨#[]⟩, .int .i64 0, .string ⟨#[]⟩, .int .i64 0, .int .i64 0, .int .i64 0, .int .i64 0, .int .i64 0, .int .i64 0, .int .i64 0, .slice none 0 0, .string ⟨#[]⟩, .int .i64 0, .int .i64 0] 37)).alloc (.cells #[(.iface 49 (.agg #[.string series, .int .i64 y, .int .i64 m, .int .i64 d, .slice ao n cap]))] 25)) (.cells #[.int .i64 4, .string ⟨#[]⟩, .int .i64 0, .string ⟨#[]⟩, .int .i64 0, .int .i64 0, .int .i64 0, .int .i64 0, .int .i64 0, .int .i64 0, .int .i64 0, .slice none 0 0, .string ⟨#[]⟩, .int .i64 0, .int .i64 0] 37)
  rw [show (((w.alloc (.cells #[(.iface 49 (.agg #[.string series, .int .i64 y, .int .i64 m, .int .i64 d, .slice ao n cap]))] 25)).alloc (.cells #[.int .i64 0, .string ⟨#[]⟩, .int .i64 0, .string ⟨#[]⟩, .int .i64 0, .int .i64 0, .int .i64 0, .int .i64 0, .int .i64 0, .int .i64 0, .int .i64 0, .slice none 0 0, .string ⟨#[]⟩, .int .i64 0, .int .i64 0] 37)).alloc (.cells #[(.iface 49 (.agg #[.string series, .int .i64 y, .int .i64 m, .int .i64 d, .slice ao n cap]))] 25)).heap.size = w.heap.size + 1 + 1 + 1 by simp] at h
  exact h
theorem flat_keep {series : ByteArray} {y m d : Int} {ao : Option Addr} {n cap : Nat} {w u : World} (h : Below w.heap.size w u ∧ u.cell? ⟨w.heap.size + 1 + 1 + 1 + 1, 0, none⟩ = some (.string series) ∧ u.cell? ⟨w.heap.size + 1 + 1 + 1 + 1, 1, none⟩ = some (.int .i64 y) ∧ u.cell? ⟨w.heap.size + 1 + 1 + 1 + 1, 2, none⟩ = some (.int .i64 m) ∧ u.cell? ⟨w.heap.size + 1 + 1 + 1 + 1, 3, none⟩ = some (.int .i64 d) ∧ u.cell? ⟨w.heap.size + 1 + 1 + 1 + 1, 4, none⟩ = some (.slice ao n cap)) (o : Nat) (x : Value) : Below w.heap.size w (u.setCell ⟨w.heap.size + 1 + 1 + 1, o, none⟩ x) ∧ (u.setCell ⟨w.heap.size + 1 + 1 + 1, o, none⟩ x).cell? ⟨w.heap.size + 1 + 1 + 1 + 1, 0, none⟩ = some (.string series) ∧ (u.setCell ⟨w.heap.size + 1 + 1 + 1, o, none⟩ x).cell? ⟨w.heap.size + 1 + 1 + 1 + 1, 1, none⟩ = some (.int .i64 y) ∧ (u.setCell ⟨w.heap.size + 1 + 1 + 1, o, none⟩ x).cell? ⟨w.heap.size + 1 + 1 + 1 + 1, 2, none⟩ = some (.int .i64 m) ∧ (u.setCell ⟨w.heap.size + 1 + 1 + 1, o, none⟩ x).cell? ⟨w.heap.size + 1 + 1 + 1 + 1, 3, none⟩ = some (.int .i64 d) ∧ (u.setCell ⟨w.heap.size + 1 + 1 + 1, o, none⟩ x).cell? ⟨w.heap.size + 1 + 1 + 1 + 1, 4, none⟩ = some (.slice ao n cap) := by
  obtain ⟨h0, h1, h2, h3, h4, h5⟩ := h
  refine ⟨bset h0 (by omega) _ _, ?_, ?_, ?_, ?_, ?_⟩
  all_goals simp [go_sem, h1, h2, h3, h4, h5]
set_option maxHeartbeats 8000000 in
theorem flat_4 (series : ByteArray) (y m d : Int) (ls : List Ln.T) (ao : Option Addr) (n cap : Nat) (w : World) (h : Cm.Is w (Cm.S.pst series y m d ls) (.iface 49 (.agg #[.string series, .int .i64 y, .int .i64 m, .int .i64 d, .slice ao n cap]))) (hn : n ≤ 100000) (hL : Ln.Ls w ao n cap ls) :
    Calls Try.prog 12 #[Cm.cv (.iface 49 (.agg #[.string series, .int .i64 y, .int .i64 m, .int .i64 d, .slice ao n cap]))] w fun e w' => (∃ la lc, e = .returned (.tuple #[Cm.val { Cm.T.zero with kind := 4, series := series, y := y, m := m, d := d, ao := la, n := ls.length, cap := lc }, .bool true]) ∧ Ln.Free w' w.heap.size la ls.length lc ls) ∧ Below w.heap.size w w' := by
  have HI := Lib.hid h
  have HL := Lib.hid hL
  have a_open := ask_Post_open
  have a_shut := ask_Post_shut
  have a_levy := ask_Post_levy
  have a_Post := ask_Post_Post
  clear h hL
  unfold Cm.cv
  go_enter Try.func12, Try.ntmps12
  go_wp2_with fail
  refine (cmd_kind _ _ _ (HI.out.below (below_box (below_box (Below.refl _ _) _) _))).mono ?_
  rintro e w1 ⟨rfl, rfl⟩
  rw [show (Cm.S.pst series y m d ls).kind = 4 from rfl]
  clear HI
  go_wp2_with fail
  obtain ⟨W, hW, hBW, hsz, hP, hB3, hB1, hc0⟩ := flat_box series y m d ao n cap w
  rw [hW]
  have HBW := Lib.hid hBW
  have HP := Lib.hid hP
  have HB3 := Lib.hid hB3
  have HB1 := Lib.hid hB1
  have HS := Lib.hid HL.out.short
  have hS0 : Below w.heap.size w W.drew ∧ W.drew.cell? ⟨w.heap.size + 1 + 1 + 1 + 1, 0, none⟩ = some (.string series) ∧ W.drew.cell? ⟨w.heap.size + 1 + 1 + 1 + 1, 1, none⟩ = some (.int .i64 y) ∧ W.drew.cell? ⟨w.heap.size + 1 + 1 + 1 + 1, 2, none⟩ = some (.int .i64 m) ∧ W.drew.cell? ⟨w.heap.size + 1 + 1 + 1 + 1, 3, none⟩ = some (.int .i64 d) ∧ W.drew.cell? ⟨w.heap.size + 1 + 1 + 1 + 1, 4, none⟩ = some (.slice ao n cap) := ⟨hBW.drew, hP.c0, hP.c1, hP.c2, hP.c3, hP.c4⟩
  clear hW hBW hP hB3 hB1
  go_region_held3 (fun u => Below w.heap.size w u ∧ u.cell? ⟨w.heap.size + 1 + 1 + 1 + 1, 0, none⟩ = some (.string series) ∧ u.cell? ⟨w.heap.size + 1 + 1 + 1 + 1, 1, none⟩ = some (.int .i64 y) ∧ u.cell? ⟨w.heap.size + 1 + 1 + 1 + 1, 2, none⟩ = some (.int .i64 m) ∧ u.cell? ⟨w.heap.size + 1 + 1 + 1 + 1, 3, none⟩ = some (.int .i64 d) ∧ u.cell? ⟨w.heap.size + 1 + 1 + 1 + 1, 4, none⟩ = some (.slice ao n cap)) (first | assumption | exact flat_keep (by assumption) _ _ | exact flat_keep (flat_keep (by assumption) _ _) _ _ | exact flat_keep (flat_keep (flat_keep (by assumption) _ _) _ _) _ _) (first | (go_at_call 30; refine (cmd_own ao n cap ls _ (HL.out.below hS0.1) hn).mono ?_; rintro e w' ⟨⟨v, rfl, ho⟩, b⟩; obtain ⟨la, lc, rfl, hF⟩ := Ln.own_free ho HS.out; have P' := (HP.out.below (Below.refl _ _).drew).below b; have B3' := (HB3.out.below (Below.refl _ _).drew).below b; have B1' := (HB1.out.below (Below.refl _ _).drew).below b; have hS0 : Below w.heap.size w w' ∧ w'.cell? ⟨w.heap.size + 1 + 1 + 1 + 1, 0, none⟩ = some (.string series) ∧ w'.cell? ⟨w.heap.size + 1 + 1 + 1 + 1, 1, none⟩ = some (.int .i64 y) ∧ w'.cell? ⟨w.heap.size + 1 + 1 + 1 + 1, 2, none⟩ = some (.int .i64 m) ∧ w'.cell? ⟨w.heap.size + 1 + 1 + 1 + 1, 3, none⟩ = some (.int .i64 d) ∧ w'.cell? ⟨w.heap.size + 1 + 1 + 1 + 1, 4, none⟩ = some (.slice ao n cap) := ⟨bchain hS0.1 b, P'.c0, P'.c1, P'.c2, P'.c3, P'.c4⟩; have q1 := B3'.cell 1; have z1 := B3'.fz 1; change _ = some _ at q1; have q8 := B3'.cell 8; have z8 := B3'.fz 8; change _ = some _ at q8; have q9 := B3'.cell 9; have z9 := B3'.fz 9; change _ = some _ at q9; have q10 := B3'.cell 10; have z10 := B3'.fz 10; change _ = some _ at q10; have q11 := B3'.cell 11; have z11 := B3'.fz 11; change _ = some _ at q11; have hc0' : w'.cell? ⟨w.heap.size, 0, none⟩ = some (.iface 49 (.agg #[.string series, .int .i64 y, .int .i64 m, .int .i64 d, .slice ao n cap])) := ((bcell b).1 _ _ (by show w.heap.size < W.heap.size; omega)).trans hc0; have HFr := Lib.hid hF; have HB3' := Lib.hid B3'; have HB1' := Lib.hid B1'; clear ho b P' hF B3' B1') | fail)
  go_wp2_with fail
  have hB : w.heap.size + 1 + 1 + 1 < W.drew.heap.size := by show w.heap.size + 1 + 1 + 1 < W.heap.size; omega
  have hB1 : w.heap.size + 1 < W.drew.heap.size := by omega
  have hB3w : w.heap.size ≤ w.heap.size + 1 + 1 + 1 := by omega
  have HX3 := Lib.hid (((((HB3'.out.set (c' := { Cm.T.zero with kind := 4, series := series }) 1 (.string series) rfl).set (c' := { Cm.T.zero with kind := 4, series := series, y := y }) 8 (.int .i64 y) rfl).set (c' := { Cm.T.zero with kind := 4, series := series, y := y, m := m }) 9 (.int .i64 m) rfl).set (c' := { Cm.T.zero with kind := 4, series := series, y := y, m := m, d := d }) 10 (.int .i64 d) rfl).set (c' := { Cm.T.zero with kind := 4, series := series, y := y, m := m, d := d, ao := la, n := ls.length, cap := lc }) 11 (.slice la ls.length lc) rfl)
  have hne : w.heap.size + 1 ≠ w.heap.size + 1 + 1 + 1 := by omega
  have HX1 := Lib.hid (((((HB1'.out.other (o := 1) (.string series) hne).other (o := 8) (.int .i64 y) hne).other (o := 9) (.int .i64 m) hne).other (o := 10) (.int .i64 d) hne).other (o := 11) (.slice la ls.length lc) hne)
  have HXF := Lib.hid (((((HFr.out.upd (Upd.set (o := 1) (.string series)) hB).upd (Upd.set (o := 8) (.int .i64 y)) hB).upd (Upd.set (o := 9) (.int .i64 m)) hB).upd (Upd.set (o := 10) (.int .i64 d)) hB).upd (Upd.set (o := 11) (.slice la ls.length lc)) hB)
  have HXB := Lib.hid (bset (bset (bset (bset (bset hS0.1 hB3w 1 (.string series)) hB3w 8 (.int .i64 y)) hB3w 9 (.int .i64 m)) hB3w 10 (.int .i64 d)) hB3w 11 (.slice la ls.length lc))
  have hcX : (((((w'.setCell ⟨w.heap.size + 1 + 1 + 1, 1, none⟩ (.string series)).setCell ⟨w.heap.size + 1 + 1 + 1, 8, none⟩ (.int .i64 y)).setCell ⟨w.heap.size + 1 + 1 + 1, 9, none⟩ (.int .i64 m)).setCell ⟨w.heap.size + 1 + 1 + 1, 10, none⟩ (.int .i64 d)).setCell ⟨w.heap.size + 1 + 1 + 1, 11, none⟩ (.slice la ls.length lc)).cell? ⟨w.heap.size, 0, none⟩ = some (.iface 49 (.agg #[.string series, .int .i64 y, .int .i64 m, .int .i64 d, .slice ao n cap])) := by
    simp [go_sem, hc0']
  clear q1 q8 q9 q10 q11 z1 z8 z9 z10 z11 hS0
  generalize (((((w'.setCell ⟨w.heap.size + 1 + 1 + 1, 1, none⟩ (.string series)).setCell ⟨w.heap.size + 1 + 1 + 1, 8, none⟩ (.int .i64 y)).setCell ⟨w.heap.size + 1 + 1 + 1, 9, none⟩ (.int .i64 m)).setCell ⟨w.heap.size + 1 + 1 + 1, 10, none⟩ (.int .i64 d)).setCell ⟨w.heap.size + 1 + 1 + 1, 11, none⟩ (.slice la ls.length lc)) = X at *
  have k0 : X.cell? ⟨w.heap.size + 1 + 1 + 1, 0, none⟩ = some (.int .i64 4) := HX3.out.cell 0
  have k1 : X.cell? ⟨w.heap.size + 1 + 1 + 1, 1, none⟩ = some (.string series) := HX3.out.cell 1
  have k2 : X.cell? ⟨w.heap.size + 1 + 1 + 1, 2, none⟩ = some (.int .i64 0) := HX3.out.cell 2
  have k3 : X.cell? ⟨w.heap.size + 1 + 1 + 1, 3, none⟩ = some (.string .empty) := HX3.out.cell 3
  have k4 : X.cell? ⟨w.heap.size + 1 + 1 + 1, 4, none⟩ = some (.int .i64 0) := HX3.out.cell 4
  have k5 : X.cell? ⟨w.heap.size + 1 + 1 + 1, 5, none⟩ = some (.int .i64 0) := HX3.out.cell 5
  have k6 : X.cell? ⟨w.heap.size + 1 + 1 + 1, 6, none⟩ = some (.int .i64 0) := HX3.out.cell 6
  have k7 : X.cell? ⟨w.heap.size + 1 + 1 + 1, 7, none⟩ = some (.int .i64 0) := HX3.out.cell 7
  have k8 : X.cell? ⟨w.heap.size + 1 + 1 + 1, 8, none⟩ = some (.int .i64 y) := HX3.out.cell 8
  have k9 : X.cell? ⟨w.heap.size + 1 + 1 + 1, 9, none⟩ = some (.int .i64 m) := HX3.out.cell 9
  have k10 : X.cell? ⟨w.heap.size + 1 + 1 + 1, 10, none⟩ = some (.int .i64 d) := HX3.out.cell 10
  have k11 : X.cell? ⟨w.heap.size + 1 + 1 + 1, 11, none⟩ = some (.slice la ls.length lc) := HX3.out.cell 11
  have k12 : X.cell? ⟨w.heap.size + 1 + 1 + 1, 12, none⟩ = some (.string .empty) := HX3.out.cell 12
  have k13 : X.cell? ⟨w.heap.size + 1 + 1 + 1, 13, none⟩ = some (.int .i64 0) := HX3.out.cell 13
  have k14 : X.cell? ⟨w.heap.size + 1 + 1 + 1, 14, none⟩ = some (.int .i64 0) := HX3.out.cell 14
  have p0 : X.cell? ⟨w.heap.size + 1, 0, none⟩ = some (.int .i64 0) := HX1.out.cell 0
  have p1 : X.cell? ⟨w.heap.size + 1, 1, none⟩ = some (.string .empty) := HX1.out.cell 1
  have p2 : X.cell? ⟨w.heap.size + 1, 2, none⟩ = some (.int .i64 0) := HX1.out.cell 2
  have p3 : X.cell? ⟨w.heap.size + 1, 3, none⟩ = some (.string .empty) := HX1.out.cell 3
  have p4 : X.cell? ⟨w.heap.size + 1, 4, none⟩ = some (.int .i64 0) := HX1.out.cell 4
  have p5 : X.cell? ⟨w.heap.size + 1, 5, none⟩ = some (.int .i64 0) := HX1.out.cell 5
  have p6 : X.cell? ⟨w.heap.size + 1, 6, none⟩ = some (.int .i64 0) := HX1.out.cell 6
  have p7 : X.cell? ⟨w.heap.size + 1, 7, none⟩ = some (.int .i64 0) := HX1.out.cell 7
  have p8 : X.cell? ⟨w.heap.size + 1, 8, none⟩ = some (.int .i64 0) := HX1.out.cell 8
  have p9 : X.cell? ⟨w.heap.size + 1, 9, none⟩ = some (.int .i64 0) := HX1.out.cell 9
  have p10 : X.cell? ⟨w.heap.size + 1, 10, none⟩ = some (.int .i64 0) := HX1.out.cell 10
  have p11 : X.cell? ⟨w.heap.size + 1, 11, none⟩ = some (.slice none 0 0) := HX1.out.cell 11
  have p12 : X.cell? ⟨w.heap.size + 1, 12, none⟩ = some (.string .empty) := HX1.out.cell 12
  have p13 : X.cell? ⟨w.heap.size + 1, 13, none⟩ = some (.int .i64 0) := HX1.out.cell 13
  have p14 : X.cell? ⟨w.heap.size + 1, 14, none⟩ = some (.int .i64 0) := HX1.out.cell 14
  have pf : ∀ o, X.frozen? ⟨w.heap.size + 1, o, none⟩ = false := fun o => HX1.out.fz o
  go_region
  go_wp2_with fail
  refine bodyPost_ret (v := .tuple #[Cm.val { Cm.T.zero with kind := 4, series := series, y := y, m := m, d := d, ao := la, n := ls.length, cap := lc }, .bool true]) (by simp [results, Cm.val, Cm.T.zero, Try.results12, go_sem, p0, p1, p2, p3, p4, p5, p6, p7, p8, p9, p10, p11, p12, p13, p14]) rfl ⟨⟨la, lc, rfl, ?_⟩, ?_⟩
  · refine Ln.Free.mono (B := W.drew.heap.size) ?_ (by show w.heap.size ≤ W.heap.size; omega)
    refine Ln.Free.below ?_ (Below.refl _ _).drew
    iterate 15 (with_reducible refine Ln.Free.upd (p := w.heap.size + 1) ?_ (Upd.set _) hB1)
    exact HXF.out
  · refine Below.drew ?_
    iterate 15 (with_reducible refine bset ?_ (Nat.le_succ _) _ _)
    exact HXB.out
end Go.Proofs.Ytndfhnaafaijcaa

/- CONTRACTS OF PACKAGE command: Flat, as a whole. -/
set_option linter.unusedVariables false
namespace Go.Proofs.Ytndfhnaafaijcaa
open Go.RowKit
open Mem Cm

/-- what is asked of Flat -/
def FlatE (s : S) (w : World) (e : Ending) (w' : World) : Prop :=
  (∃ c, e = .returned (.tuple #[Cm.val c, .bool (decide (s.kind ≠ 0))]) ∧ Cm.In w' c s.lines ∧ c.sem s.lines = s ∧ Ln.Free w' w.heap.size c.ao c.n c.cap s.lines) ∧ Below w.heap.size w w'
theorem flatE_of {s : S} {w w' : World} {e : Ending} {c : Cm.T} {b : Bool} (hs : s.lines = []) (hc : c.sem [] = s) (hl : c.ao = none ∧ c.n = 0 ∧ c.cap = 0) (hk : Fit s.kind) (hf : s.Fit') (hb : b = decide (s.kind ≠ 0)) (h : e = .returned (.tuple #[Cm.val c, .bool b]) ∧ Below w.heap.size w w') : FlatE s w e w' := by
  subst hb
  refine ⟨⟨c, h.1, ?_, by rw [hs]; exact hc, ?_⟩, h.2⟩
  · rw [hs]
    refine Cm.in_of (by rw [hc]; exact hf) ?_ (by rw [hl.1, hl.2.1, hl.2.2]; exact Ln.ls_nil _)
    rw [← hc] at hk
    exact hk
  · rw [hs, hl.1, hl.2.1, hl.2.2]
    exact Ln.free_nil _ _
theorem flat_any (s : S) (v : Value) (w : World) (h : Cm.Is w s v) : Calls Try.prog 12 #[Cm.cv v] w (FlatE s w) := by
  have hk : Fit s.kind := ⟨by have := h.kindOk; omega, by have := h.kindOk; omega⟩
  have hf : s.Fit' := by
    rcases h.good with ⟨e, _⟩ | hg
    · rw [e]
      exact fitS empty_size empty_size empty_size fit0 fit0 fit0 fit0 fit0 fit0 fit0 fit0 fit0 fit0 (fun _ h => by cases h)
    · exact hg.fit
  have hI := h
  cases h with
  | none => exact (flat_0 w).mono fun e w' h => flatE_of rfl rfl ⟨rfl, rfl, rfl⟩ hk hf rfl h
  | opn series limit h1 h2 => exact (flat_1 series limit h1 h2 w).mono fun e w' h => flatE_of rfl rfl ⟨rfl, rfl, rfl⟩ hk hf rfl h
  | sht series h1 => exact (flat_2 series h1 w).mono fun e w' h => flatE_of rfl rfl ⟨rfl, rfl, rfl⟩ hk hf rfl h
  | lvy cat fy fm fd bp h1 h2 h3 h4 h5 => exact (flat_3 cat fy fm fd bp h1 h2 h3 h4 h5 w).mono fun e w' h => flatE_of rfl rfl ⟨rfl, rfl, rfl⟩ hk hf rfl h
  | pst series y m d ls ao n cap h1 h2 h3 h4 hn hL =>
    refine (flat_4 series y m d ls ao n cap w hI hn hL).mono fun e w' h => ?_
    obtain ⟨⟨la, lc, rfl, hF⟩, hb⟩ := h
    exact ⟨⟨_, rfl, Cm.in_of hf hk hF.ls, rfl, hF⟩, hb⟩
  | crd series y m d ofs ofn h1 h2 h3 h4 h5 h6 => exact (flat_5 series y m d ofs ofn h1 h2 h3 h4 h5 h6 w).mono fun e w' h => flatE_of rfl rfl ⟨rfl, rfl, rfl⟩ hk hf rfl h
  | jn => exact (flat_6 w).mono fun e w' h => flatE_of rfl rfl ⟨rfl, rfl, rfl⟩ hk hf rfl h
  | lv session h1 => exact (flat_7 session h1 w).mono fun e w' h => flatE_of rfl rfl ⟨rfl, rfl, rfl⟩ hk hf rfl h
  | sk series h1 => exact (flat_8 series h1 w).mono fun e w' h => flatE_of rfl rfl ⟨rfl, rfl, rfl⟩ hk hf rfl h
end Go.Proofs.Ytndfhnaafaijcaa
