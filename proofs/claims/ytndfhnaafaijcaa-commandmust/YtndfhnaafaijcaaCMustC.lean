/- WHAT CommandMust NEEDS: MustPost's lines are new; its closure, caught. -/
import Derived.Test.YtndfhnaafaijcaaMGd
import Derived.Test.YtndfhnaafaijcaaMGm
import Derived.Test.YtndfhnaafaijcaaMGe
set_option linter.unusedVariables false
set_option maxRecDepth 100000
namespace Go.Proofs.Ytndfhnaafaijcaa
open Go.RowKit
open Mem Cm

set_option maxHeartbeats 2000000 in
theorem must_keep (s : Cm.S) (v : Value) (w : World) (h : Cm.Is w s v) (hk : s.kind = 4) :
    Calls Try.prog 15 #[Cm.cv v] w fun e w' => (∃ ao cap, e = .returned (.agg #[.string s.series, .int .i64 s.y, .int .i64 s.m, .int .i64 s.d, .slice ao s.lines.length cap]) ∧ Ln.Ls w' ao s.lines.length cap s.lines ∧ (∀ ad, ao = some ad → ∃ g, ad = ⟨g, 0, none⟩ ∧ w.heap.size ≤ g)) ∧ Below w.heap.size w w' := by
  cases h with
  | pst series y m d ls ao n cap h_series h_y h_m h_d h_n h_lines =>
    have HL := Lib.hid h_lines
    have a_Post := must_Post
    have HI : ∀ u, Below w.heap.size w u → Cm.Is u (Cm.S.pst series y m d ls) (.iface 49 (.agg #[.string series, .int .i64 y, .int .i64 m, .int .i64 d, .slice ao n cap])) := fun u hu => .pst series y m d ls ao n cap h_series h_y h_m h_d h_n (h_lines.below hu)
    clear h_lines
    show Calls Try.prog 15 #[Cm.cv _] w fun e w' => (∃ ao cap, e = .returned (.agg #[.string series, .int .i64 y, .int .i64 m, .int .i64 d, .slice ao ls.length cap]) ∧ Ln.Ls w' ao ls.length cap ls ∧ (∀ ad, ao = some ad → ∃ g, ad = ⟨g, 0, none⟩ ∧ w.heap.size ≤ g)) ∧ Below w.heap.size w w'
    unfold Cm.cv
    go_enter Try.func15, Try.ntmps15
    go_wp2_with fail
    refine (cmd_kind _ _ _ (HI _ (below_box (below_box (Below.refl _ _) _) _))).mono ?_
    rintro e w1 ⟨rfl, rfl⟩
    rw [show (Cm.S.pst series y m d ls).kind = 4 from rfl]
    clear HI hk
    go_wp2_with fail
    refine (cmd_own ao n cap ls _ (HL.out.below (below_box (below_box (below_box (below_box (Below.refl _ _) _) _) _) _)) h_n).mono ?_
    rintro e w2 ⟨⟨sv, rfl, ho⟩, b⟩
    obtain ⟨ao2, cap2, rfl, hls, hfr⟩ := Ln.own_ls ho HL.out.short
    obtain ⟨hb, hA, hC⟩ := must_boxes w w2 _ _ _ _ _ _ b
    have HLs := Lib.hid hls
    have HFr := Lib.hid hfr
    have HB := Lib.hid hb
    clear b ho hls hfr hb
    obtain ⟨a0, a1, a2, a3, a4, af⟩ := hA
    obtain ⟨c0, c1, c2, c3, c4, cf⟩ := hC
    go_wp2_with fail
    have e1 : ∀ b off, ao2 = some ⟨b, off, none⟩ → b ≠ w.heap.size + 1 + 1 + 1 := Ln.apart HFr.out (by simp)
    have e2 : ∀ b off, ao2 = some ⟨b, off, none⟩ → b ≠ w.heap.size + 1 := Ln.apart HFr.out (by simp)
    refine bodyPost_ret (v := .agg #[.string series, .int .i64 y, .int .i64 m, .int .i64 d, .slice ao2 ls.length cap2]) (by simp [results, Try.results15, go_sem, a0, a1, a2, a3, a4]) rfl ⟨⟨ao2, cap2, rfl, ?_, fun ad h => by
      obtain ⟨g, h1, h2⟩ := HFr.out ad h
      exact ⟨g, h1, by simp at h2; omega⟩⟩, ?_⟩
    · exact (((((HLs.out.upd (Upd.set _) e1).upd (Upd.set _) e2).upd (Upd.set _) e2).upd (Upd.set _) e2).upd (Upd.set _) e2).upd (Upd.set _) e2
    · exact bset (bset (bset (bset (bset (bset HB.out (by omega) _ _) (by omega) _ _) (by omega) _ _) (by omega) _ _) (by omega) _ _) (by omega) _ _
  | _ => cases hk
theorem PostAt.upd {u v : World} {p b : Nat} {series : ByteArray} {y m d : Int} {lv : Value} (h : PostAt u b series y m d lv) (k : Upd u p v) (hp : b ≠ p) : PostAt v b series y m d lv := by
  have hl := cell_lt h.c0
  exact ⟨by rw [k.cell _ _ hl hp]; exact h.c0, by rw [k.cell _ _ hl hp]; exact h.c1, by rw [k.cell _ _ hl hp]; exact h.c2, by rw [k.cell _ _ hl hp]; exact h.c3, by rw [k.cell _ _ hl hp]; exact h.c4, fun o => by rw [k.frozen _ _ hl]; exact h.fz o⟩
/-- what CommandMust's closure leaves -/
structure MustQ (u : World) (b5 : Nat) (s : S) (u' : World) : Prop where
  out : ∃ la lc, PostAt u' b5 s.series s.y s.m s.d (.slice la s.lines.length lc) ∧ Ln.Ls u' la s.lines.length lc s.lines ∧ (∀ ad, la = some ad → ∃ g, ad = ⟨g, 0, none⟩ ∧ u.heap.size ≤ g)
  upd : Upd u b5 u'
set_option maxHeartbeats 2000000 in
theorem mustc_ok (s : S) (v : Value) (u : World) (b3 b5 : Nat) (h : Cm.Is u s v) (hk : s.kind = 4) (hc : u.cell? ⟨b3, 0, none⟩ = some v) (h0 : PostAt u b5 .empty 0 0 0 (.slice none 0 0)) :
    Calls Try.prog 28 #[.pointer (some ⟨b3, 0, none⟩), .pointer (some ⟨b5, 0, none⟩)] u fun e u' => e = .returned (.tuple #[]) ∧ MustQ u b5 s u' := by
  have HI := Lib.hid h
  have HP := Lib.hid h0
  have hlt := cell_lt h0.c0
  clear h h0
  go_enter Try.func28, Try.ntmps28
  go_wp2_with fail
  refine (must_keep s v u HI.out hk).mono ?_
  rintro e w1 ⟨⟨la, lc, rfl, hls, hnew⟩, b1⟩
  obtain ⟨c0, c1, c2, c3, c4, cf⟩ := HP.out.below b1
  have HB1 := Lib.hid b1
  have HLs := Lib.hid hls
  have HNw := Lib.hid hnew
  have hap := Ln.apart hnew hlt
  have HAp := Lib.hid hap
  clear b1 hls hnew hap
  go_wp2_with fail
  go_end0
  refine ⟨rfl, ⟨la, lc, ⟨by simp [go_sem, c0], by simp [go_sem, c1], by simp [go_sem, c2], by simp [go_sem, c3], by simp [go_sem, c4], fun o => by simp [go_sem, cf]⟩, ?_, HNw.out⟩, ?_⟩
  · exact ((((HLs.out.upd (Upd.set _) HAp.out).upd (Upd.set _) HAp.out).upd (Upd.set _) HAp.out).upd (Upd.set _) HAp.out).upd (Upd.set _) HAp.out
  · exact (((((Upd.of b5 HB1.out).trans (Upd.set _)).trans (Upd.set _)).trans (Upd.set _)).trans (Upd.set _)).trans (Upd.set _)
set_option maxHeartbeats 2000000 in
theorem mustc_no (s : S) (v : Value) (u : World) (b3 b5 : Nat) (h : Cm.Is u s v) (hk : s.kind ≠ 4) (hc : u.cell? ⟨b3, 0, none⟩ = some v) :
    Calls Try.prog 28 #[.pointer (some ⟨b3, 0, none⟩), .pointer (some ⟨b5, 0, none⟩)] u fun e u' => e = .panicked [{ v := .iface 45 (.agg #[.int .i64 4, .int .i64 s.kind]), recovered := false }] ∧ Below u.heap.size u u' := by
  have HI := Lib.hid h
  have HK := Lib.hid hk
  clear h hk
  go_enter Try.func28, Try.ntmps28
  go_wp2_with fail
  refine (must_no s v u HI.out HK.out).mono ?_
  rintro e w1 ⟨rfl, b1⟩
  have HB1 := Lib.hid b1
  clear b1
  go_wp2_with fail
  exact ⟨rfl, rfl, HB1.out⟩
end Go.Proofs.Ytndfhnaafaijcaa
