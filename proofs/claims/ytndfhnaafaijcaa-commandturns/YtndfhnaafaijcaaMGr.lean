/- MERGED: RefBarC. (By mg.py.) -/
import Derived.Test.YtndfhnaafaijcaaMGp
import Derived.Test.YtndfhnaafaijcaaMGq
import Derived.Test.YtndfhnaafaijcaaMGe
/- impostref8.Bare: of a Post, of no kind, and as a whole. -/
set_option linter.unusedVariables false
set_option maxRecDepth 100000
namespace Go.Proofs.Ytndfhnaafaijcaa
open Go.RowKit
open Mem Cm

set_option maxHeartbeats 8000000 in
theorem bare_0 (c : Cm.T) (w : World) (hk : ¬ (1 ≤ c.kind ∧ c.kind ≤ 8)) :
    Calls Try.prog 19 #[Cm.val c] w fun e w' => e = .returned (.tuple #[Cm.val Cm.T.zero, .bool false]) ∧ Below w.heap.size w w' := by
  have k1 : (c.kind == 1) = false := beq_eq_false_iff_ne.2 (by omega)
  have k2 : (c.kind == 2) = false := beq_eq_false_iff_ne.2 (by omega)
  have k3 : (c.kind == 3) = false := beq_eq_false_iff_ne.2 (by omega)
  have k4 : (c.kind == 4) = false := beq_eq_false_iff_ne.2 (by omega)
  have k5 : (c.kind == 5) = false := beq_eq_false_iff_ne.2 (by omega)
  have k6 : (c.kind == 6) = false := beq_eq_false_iff_ne.2 (by omega)
  have k7 : (c.kind == 7) = false := beq_eq_false_iff_ne.2 (by omega)
  have k8 : (c.kind == 8) = false := beq_eq_false_iff_ne.2 (by omega)
  unfold Cm.val
  go_enter Try.func19, Try.ntmps19
  go_wp2_with (first | (with_reducible apply Cm.wpl_load; rfl; rfl; rfl; exact Cm.heap_third _ _ _ _; rfl) | (with_reducible apply Cm.wpl_store; rfl; rfl; rfl; exact Cm.size_two _ _ _; rfl; rfl; rfl; rfl) | (with_reducible apply Cm.wpl_store_mid; rfl; rfl; rfl; exact Cm.size_one _ _; rfl; rfl; rfl; rfl))
  refine bodyPost_ret (Cm.results_row2 Try.results19 rfl (Cm.heap_mid _ _ _ _) rfl) rfl ?_
  exact ⟨rfl, below_box (below_box (below_box (Below.refl _ _) _) _) _⟩
theorem bare_box (c : Cm.T) (w : World) : ∃ W, (((w.alloc (.cells #[.int .i64 4, .string c.series, .int .i64 c.limit, .string c.cat, .int .i64 c.fy, .int .i64 c.fm, .int .i64 c.fd, .int .i64 c.bp, .int .i64 c.y, .int .i64 c.m, .int .i64 c.d, .slice c.ao c.n c.cap, .string c.ofs, .int .i64 c.ofn, .int .i64 c.session] 37)).alloc (.cells #[.int .i64 0, .string ⟨#[]⟩, .int .i64 0, .string ⟨#[]⟩, .int .i64 0, .int .i64 0, .int .i64 0, .int .i64 0, .int .i64 0, .int .i64 0, .int .i64 0, .slice none 0 0, .string ⟨#[]⟩, .int .i64 0, .int .i64 0] 37)).alloc (.cells #[.int .i64 4, .string c.series, .int .i64 0, .string ⟨#[]⟩, .int .i64 0, .int .i64 0, .int .i64 0, .int .i64 0, .int .i64 c.y, .int .i64 c.m, .int .i64 c.d, .slice none 0 0, .string ⟨#[]⟩, .int .i64 0, .int .i64 0] 37)).drew = W ∧ Below w.heap.size w W ∧ W.heap.size = w.heap.size + 3 ∧ W.cell? ⟨w.heap.size, 11, none⟩ = some (.slice c.ao c.n c.cap) ∧
    Cm.Blk W (w.heap.size + 1 + 1) { Cm.T.zero with kind := 4, series := c.series, y := c.y, m := c.m, d := c.d } ∧ Cm.Blk W (w.heap.size + 1) Cm.T.zero := by
  refine ⟨_, rfl, (below_box (below_box (below_box (Below.refl _ _) _) _) _).drew, by show (((w.alloc _).alloc _).alloc _).heap.size = _; simp, by simp [go_sem], Cm.heap_third _ _ _ _, heap_old (Mem.heap_next _ _ _)⟩
set_option maxHeartbeats 8000000 in
theorem bare_4 (c : Cm.T) (ls : List Ln.T) (w : World) (hL : Ln.Ls w c.ao c.n c.cap ls) (hn : c.n ≤ 100000) (hk : c.kind = 4) :
    Calls Try.prog 19 #[Cm.val c] w fun e w' => (∃ la lc, e = .returned (.tuple #[Cm.val { Cm.T.zero with kind := 4, series := c.series, y := c.y, m := c.m, d := c.d, ao := la, n := ls.length, cap := lc }, .bool true]) ∧ Ln.Ls w' la ls.length lc ls) ∧ Below w.heap.size w w' := by
  have HL := Lib.hid hL
  clear hL
  unfold Cm.val
  rw [hk]
  go_enter Try.func19, Try.ntmps19
  go_wp2_with (first | (with_reducible apply Cm.wpl_load; rfl; rfl; rfl; exact Cm.heap_third _ _ _ _; rfl) | (with_reducible apply Cm.wpl_store; rfl; rfl; rfl; exact Cm.size_two _ _ _; rfl; rfl; rfl; rfl) | (with_reducible apply Cm.wpl_store_mid; rfl; rfl; rfl; exact Cm.size_one _ _; rfl; rfl; rfl; rfl))
  go_region
  obtain ⟨W, hW, hBW, hsz, hc11, hB4, hB1⟩ := bare_box c w
  rw [hW]
  have HBW := Lib.hid hBW
  have HLW := Lib.hid (HL.out.below hBW)
  have HB4 := Lib.hid hB4
  have HB1 := Lib.hid hB1
  have hbe : Below W.heap.size W (W.alloc (.cells #[] 56)) := below_box (Below.refl _ _) _
  have HLe := Lib.hid (HLW.out.below hbe)
  have hc11' : (W.alloc (.cells #[] 56)).cell? ⟨w.heap.size, 11, none⟩ = some (.slice c.ao c.n c.cap) := by rw [(bcell hbe).1 _ _ (cell_lt hc11)]; exact hc11
  have HSz := Lib.hid hsz
  clear hW hBW hB4 hB1 hbe hsz
  go_wp2_with (at_builtin; go_must (refine Ln.wpList_append _ rfl _ _ rfl W.heap.size (.slice (some ⟨W.heap.size, 0, none⟩) 0 0) [] (by kernel_rfl) (Ln.own_empty (Nat.le_refl _) (heap_alloc_new W _)) c.ao c.n c.cap ls (by kernel_rfl) HLe.out.len HLe.out.nil HLe.out.seg (by simp only [List.length_nil]; omega) (by simp) ?_))
  intro v1 y1 o1 gr1 _
  replace o1 : Ln.Own y1 W.heap.size v1 ls := o1
  have hsz := HSz.out
  have hb1 : Below W.heap.size W y1 := ((Below.refl W.heap.size W).alloc (Nat.le_refl _) _).grown gr1 (by simp) (fun k hk => by cases hk; exact Nat.le_refl _)
  obtain ⟨la, lc, rfl, hls, hnew⟩ := Ln.own_ls o1 HL.out.short
  have HA := Lib.hid (HB1.out.below hb1)
  have hC := HB4.out.below hb1
  have q11 := hC.cell 11
  have z11 := hC.fz 11
  change _ = some _ at q11
  have hn2 : w.heap.size + 1 ≠ w.heap.size + 1 + 1 := by omega
  have HC := Lib.hid (hC.set (c' := { Cm.T.zero with kind := 4, series := c.series, y := c.y, m := c.m, d := c.d, ao := la, n := ls.length, cap := lc }) 11 (.slice la ls.length lc) rfl)
  have HA' := Lib.hid (HA.out.other (q := w.heap.size + 1 + 1) (o := 11) (.slice la ls.length lc) hn2)
  have HLs := Lib.hid (hls.upd (p := w.heap.size + 1 + 1) (Upd.set (o := 11) (.slice la ls.length lc)) (Ln.apart hnew (by omega)))
  have HNw := Lib.hid hnew
  have HB := Lib.hid (bset (p := w.heap.size + 1 + 1) (bchain HBW.out hb1) (by omega) 11 (.slice la ls.length lc))
  clear o1 gr1 hb1 hls hnew hC hc11'
  go_wp2_with (first | (with_reducible apply Cm.wplB_load; rfl; rfl; kernel_rfl; exact HC.out) | (with_reducible apply Cm.wplB_store; rfl; rfl; kernel_rfl; kernel_rfl; exact HA'.out))
  refine bodyPost_ret (Cm.results_blk2 Try.results19 rfl (HA'.out.row { Cm.T.zero with kind := 4, series := c.series, y := c.y, m := c.m, d := c.d, ao := la, n := ls.length, cap := lc })) rfl ?_
  refine ⟨⟨la, lc, rfl, Ln.Ls.setRow HLs.out (Ln.apart HNw.out (by omega))⟩, HB.out.trans (below_row (Nat.le_succ _) _)⟩
/-- what is asked of Bare -/
def BareE (c : Cm.T) (ls : List Ln.T) (w : World) (e : Ending) (w' : World) : Prop :=
  (∃ c', e = .returned (.tuple #[Cm.val c', .bool (decide (1 ≤ c.kind ∧ c.kind ≤ 8))]) ∧ Cm.In w' c' (c.sem ls).bare.lines ∧ c'.sem (c.sem ls).bare.lines = (c.sem ls).bare) ∧ Below w.heap.size w w'
theorem bare_fit {s : S} (h : s.Fit') : s.bare.Fit' := by
  have nol : ∀ x ∈ ([] : List Ln.T), Ln.Short x := fun _ h => by cases h
  unfold S.bare
  repeat' split
  · exact fitS h.series empty_size empty_size h.limit fit0 fit0 fit0 fit0 fit0 fit0 fit0 fit0 fit0 nol
  · exact fitS h.series empty_size empty_size fit0 fit0 fit0 fit0 fit0 fit0 fit0 fit0 fit0 fit0 nol
  · exact fitS empty_size h.cat empty_size fit0 h.fy h.fm h.fd h.bp fit0 fit0 fit0 fit0 fit0 nol
  · exact fitS h.series empty_size empty_size fit0 fit0 fit0 fit0 fit0 h.y h.m h.d fit0 fit0 h.lines
  · exact fitS h.series empty_size h.ofs fit0 fit0 fit0 fit0 fit0 h.y h.m h.d h.ofn fit0 nol
  · exact fitS empty_size empty_size empty_size fit0 fit0 fit0 fit0 fit0 fit0 fit0 fit0 fit0 fit0 nol
  · exact fitS empty_size empty_size empty_size fit0 fit0 fit0 fit0 fit0 fit0 fit0 fit0 fit0 h.session nol
  · exact fitS h.series empty_size empty_size fit0 fit0 fit0 fit0 fit0 fit0 fit0 fit0 fit0 fit0 nol
  · exact fitS empty_size empty_size empty_size fit0 fit0 fit0 fit0 fit0 fit0 fit0 fit0 fit0 fit0 nol
theorem bareE_of {c c' : Cm.T} {ls : List Ln.T} {w w' : World} {e : Ending} {b : Bool} (hI : Cm.In w c ls) (hb : b = decide (1 ≤ c.kind ∧ c.kind ≤ 8)) (hs : (c.sem ls).bare = c'.sem []) (hl : c'.ao = none ∧ c'.n = 0 ∧ c'.cap = 0)
    (hk : Fit c'.kind) (h : e = .returned (.tuple #[Cm.val c', .bool b]) ∧ Below w.heap.size w w') : BareE c ls w e w' := by
  subst hb
  have hf : (c.sem ls).Fit' := ⟨hI.s_series, hI.s_cat, hI.s_ofs, hI.f_limit, hI.f_fy, hI.f_fm, hI.f_fd, hI.f_bp, hI.f_y, hI.f_m, hI.f_d, hI.f_ofn, hI.f_session, hI.lines.short⟩
  have hl' : (c.sem ls).bare.lines = [] := by rw [hs]; rfl
  refine ⟨⟨c', h.1, ?_, by rw [hl', hs]⟩, h.2⟩
  rw [hl']
  exact Cm.in_of (by rw [← hs]; exact bare_fit hf) hk (by rw [hl.1, hl.2.1, hl.2.2]; exact Ln.ls_nil _)
theorem kfit (k : Int) (h1 : 0 ≤ k) (h2 : k ≤ 8) : Fit k := ⟨by omega, by omega⟩
theorem bare_any (c : Cm.T) (ls : List Ln.T) (w : World) (hI : Cm.In w c ls) (hn : c.n ≤ 100000) : Calls Try.prog 19 #[Cm.val c] w (BareE c ls w) := by
  by_cases hk : 1 ≤ c.kind ∧ c.kind ≤ 8
  · have hd : true = decide (1 ≤ c.kind ∧ c.kind ≤ 8) := (decide_eq_true hk).symm
    rcases Cm.kinds hk.1 hk.2 with h | h | h | h | h | h | h | h
    · exact (bare_1 c w h).mono fun e w' h' => bareE_of hI hd (by simp [Cm.T.sem, Cm.S.bare, h, Cm.T.zero]) ⟨rfl, rfl, rfl⟩ (kfit 1 (by omega) (by omega)) h'
    · exact (bare_2 c w h).mono fun e w' h' => bareE_of hI hd (by simp [Cm.T.sem, Cm.S.bare, h, Cm.T.zero]) ⟨rfl, rfl, rfl⟩ (kfit 2 (by omega) (by omega)) h'
    · exact (bare_3 c w h).mono fun e w' h' => bareE_of hI hd (by simp [Cm.T.sem, Cm.S.bare, h, Cm.T.zero]) ⟨rfl, rfl, rfl⟩ (kfit 3 (by omega) (by omega)) h'
    · refine (bare_4 c ls w hI.lines hn h).mono fun e w' h' => ?_
      obtain ⟨⟨la, lc, rfl, hls⟩, hb⟩ := h'
      have hf : (c.sem ls).Fit' := ⟨hI.s_series, hI.s_cat, hI.s_ofs, hI.f_limit, hI.f_fy, hI.f_fm, hI.f_fd, hI.f_bp, hI.f_y, hI.f_m, hI.f_d, hI.f_ofn, hI.f_session, hI.lines.short⟩
      have e : (c.sem ls).bare = ({ Cm.T.zero with kind := 4, series := c.series, y := c.y, m := c.m, d := c.d, ao := la, n := ls.length, cap := lc } : Cm.T).sem ls := by
        simp [Cm.T.sem, Cm.S.bare, h, Cm.T.zero]
      have hf' := bare_fit hf
      unfold BareE
      rw [← hd]
      rw [e] at hf' ⊢
      exact ⟨⟨_, rfl, Cm.in_of hf' (kfit 4 (by omega) (by omega)) hls, rfl⟩, hb⟩
    · exact (bare_5 c w h).mono fun e w' h' => bareE_of hI hd (by simp [Cm.T.sem, Cm.S.bare, h, Cm.T.zero]) ⟨rfl, rfl, rfl⟩ (kfit 5 (by omega) (by omega)) h'
    · exact (bare_6 c w h).mono fun e w' h' => bareE_of hI hd (by simp [Cm.T.sem, Cm.S.bare, h, Cm.T.zero]) ⟨rfl, rfl, rfl⟩ (kfit 6 (by omega) (by omega)) h'
    · exact (bare_7 c w h).mono fun e w' h' => bareE_of hI hd (by simp [Cm.T.sem, Cm.S.bare, h, Cm.T.zero]) ⟨rfl, rfl, rfl⟩ (kfit 7 (by omega) (by omega)) h'
    · exact (bare_8 c w h).mono fun e w' h' => bareE_of hI hd (by simp [Cm.T.sem, Cm.S.bare, h, Cm.T.zero]) ⟨rfl, rfl, rfl⟩ (kfit 8 (by omega) (by omega)) h'
  · have hd : false = decide (1 ≤ c.kind ∧ c.kind ≤ 8) := (decide_eq_false hk).symm
    refine (bare_0 c w hk).mono fun e w' h' => bareE_of hI hd ?_ ⟨rfl, rfl, rfl⟩ (kfit 0 (by omega) (by omega)) h'
    show (if c.kind = 1 then _ else _) = _
    rw [if_neg (by omega), if_neg (by show ¬ c.kind = 2; omega), if_neg (by show ¬ c.kind = 3; omega), if_neg (by show ¬ c.kind = 4; omega), if_neg (by show ¬ c.kind = 5; omega), if_neg (by show ¬ c.kind = 6; omega), if_neg (by show ¬ c.kind = 7; omega), if_neg (by show ¬ c.kind = 8; omega)]
    rfl
end Go.Proofs.Ytndfhnaafaijcaa
