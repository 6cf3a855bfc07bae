/- CONTRACTS OF PACKAGE kind: List, must, MustInt, MustText, MustDate. -/
import Derived.Test.YtfmfeagfinnmmabKdA
namespace Go.Proofs.Ytfmfeagfinnmmab
open Go.RowKit
open Vl (T)
open Mem Tg

theorem kind_list_no {A : Nat → Prop} (t : Th) (v : Value) (w0 w : World) (hw : Below w0.heap.size w0 w) (h : Is A w t v) (hk : t.kind ≠ 5) :
    Calls Try.prog 7 #[tv v] w fun e w' => e = .returned (.tuple #[.slice none 0 0, .bool false]) ∧ Below w0.heap.size w0 w' := by
  have HW := Lib.hid hw
  clear hw
  unfold tv
  cases h with
  | nothing =>
    have a_list := ask_nil_list
    go_enter Try.func7, Try.ntmps7
    go_wp2_with fail
    go_ret2
    exact ⟨rfl, below_box HW.out _⟩
  | num _ =>
    have a_list := ask_number_list
    go_enter Try.func7, Try.ntmps7
    go_wp2_with fail
    go_ret2
    exact ⟨rfl, below_box HW.out _⟩
  | text _ =>
    have a_list := ask_text_list
    go_enter Try.func7, Try.ntmps7
    go_wp2_with fail
    go_ret2
    exact ⟨rfl, below_box HW.out _⟩
  | flag =>
    have a_list := ask_flag_list
    go_enter Try.func7, Try.ntmps7
    go_wp2_with fail
    go_ret2
    exact ⟨rfl, below_box HW.out _⟩
  | day _ _ _ =>
    have a_list := ask_day_list
    go_enter Try.func7, Try.ntmps7
    go_wp2_with fail
    go_ret2
    exact ⟨rfl, below_box HW.out _⟩
  | list => exact absurd rfl hk
theorem kind_list {A : Nat → Prop} (ts : List Th) (v : Value) (w0 w : World) (hw : Below w0.heap.size w0 w) (h : Is A w (.list ts) v) :
    Calls Try.prog 7 #[tv v] w fun e w' => (∃ g vs, e = .returned (.tuple #[.slice (some ⟨g, 0, none⟩) ts.length ts.length, .bool true]) ∧ w.heap.size ≤ g ∧ Block w' g vs ∧ Each A w' ts vs ∧ ts.length ≤ 100000) ∧ Below w.heap.size w w' ∧ Below w0.heap.size w0 w' := by
  have HW := Lib.hid hw
  clear hw
  unfold tv
  cases h with
  | @list _ vs ao n cap h1 h2 h3 h4 h5 h6 h7 h8 =>
    have a_list := ask_list_list
    have hB1 : Below w.heap.size w (w.alloc (.cells #[.iface 57 (.slice ao n cap)] 26)) := (Below.refl _ _).alloc (Nat.le_refl _) _
    have hs' : SegV A (w.alloc (.cells #[.iface 57 (.slice ao n cap)] 26)) ao vs := h7.frame (fun _ _ _ _ e => by rw [(bcell hB1).1 _ _ (cell_lt e)]; exact e) (fun _ _ _ _ a => a)
    have H1 : Hid (∀ v ∈ vs, v.oneCell' = true) := Lib.hid (Each.oneCell (A := A) (w := w) (ts := ts) ⟨by omega, h8⟩)
    have HS := Lib.hid hs'
    have HN := Lib.hid h2
    have HT := Lib.hid h1
    have HB1 := Lib.hid hB1
    have HEa : Hid (Each A w ts vs) := Lib.hid ⟨h1.symm.trans h2, h8⟩
    clear h1 h2 h6 h7 h8 hs' hB1
    go_enter Try.func7, Try.ntmps7
    go_wp2_with fail
    refine (kind_own ao n cap A vs w _ HB1.out HN.out h5 HS.out H1.out).mono ?_
    rintro e w1 ⟨rfl, hb, hb1, hb0⟩
    have HBk := Lib.hid hb
    have HB0 := Lib.hid hb0
    have hsz : (w.alloc (.cells #[.iface 57 (.slice ao n cap)] 26)).heap.size = w.heap.size + 1 := by simp
    rw [hsz] at HBk
    clear hb hb1 hb0 hsz
    go_wp2_with fail
    go_ret2
    exact ⟨⟨w.heap.size + 1, vs, by rw [← HT.out]; rfl, by omega, HBk.out, HEa.out.below HB0.out, by rw [← HT.out]; exact h5⟩, HB0.out, bchain HW.out HB0.out⟩
theorem kind_must_ok {A : Nat → Prop} (t : Th) (v : Value) (asked : Int) (w0 w : World) (hw : Below w0.heap.size w0 w) (h : Is A w t v) (hk : t.kind = asked) :
    Calls Try.prog 25 #[tv v, .int .i64 asked] w fun e w' => e = .returned (.tuple #[]) ∧ Below w0.heap.size w0 w' := by
  have hB1 : Below w.heap.size w (w.alloc (.cells #[v] 26)) := (Below.refl _ _).alloc (Nat.le_refl _) _
  have HI := Lib.hid (h.stays hB1)
  have HB1 := Lib.hid (bchain hw hB1)
  have h1 := h.oneCell
  clear h hB1 hw
  subst hk
  unfold tv
  go_enter Try.func25, Try.ntmps25
  go_wp2_with fail
  refine (kind_any t v w0 _ HB1.out HI.out).mono ?_
  rintro e w1 ⟨rfl, b1⟩
  have HB := Lib.hid b1
  clear b1
  go_wp2_with fail
  go_end0
  exact ⟨rfl, HB.out⟩
/-- what is panicked with -/
def wrong (asked was : Int) : Ending := .panicked [{ v := .iface 53 (.agg #[.int .i64 asked, .int .i64 was]), recovered := false }]
theorem kind_must_no {A : Nat → Prop} (t : Th) (v : Value) (asked : Int) (w0 w : World) (hw : Below w0.heap.size w0 w) (h : Is A w t v) (hk : t.kind ≠ asked) :
    Calls Try.prog 25 #[tv v, .int .i64 asked] w fun e w' => e = wrong asked t.kind ∧ Below w0.heap.size w0 w' := by
  have hB1 : Below w.heap.size w (w.alloc (.cells #[v] 26)) := (Below.refl _ _).alloc (Nat.le_refl _) _
  have HI := Lib.hid (h.stays hB1)
  have HB1 := Lib.hid (bchain hw hB1)
  have h1 := h.oneCell
  have hne : (t.kind == asked) = false := beq_eq_false_iff_ne.2 hk
  clear h hB1 hw hk
  unfold tv
  go_enter Try.func25, Try.ntmps25
  go_wp2_with fail
  refine (kind_any t v w0 _ HB1.out HI.out).mono ?_
  rintro e w1 ⟨rfl, b1⟩
  have HB := Lib.hid b1
  clear b1
  go_wp2_with fail
  exact ⟨rfl, rfl, HB.out⟩
theorem kind_mustint {A : Nat → Prop} (t : Th) (v : Value) (w0 w : World) (hw : Below w0.heap.size w0 w) (h : Is A w t v) (hk : t.kind ≠ 1) :
    Calls Try.prog 18 #[tv v] w fun e w' => e = wrong 1 t.kind ∧ Below w0.heap.size w0 w' := by
  have hB1 : Below w.heap.size w (w.alloc (.cells #[v] 26)) := (Below.refl _ _).alloc (Nat.le_refl _) _
  have hB2 : ∀ o, Below w.heap.size w ((w.alloc (.cells #[v] 26)).alloc o) := fun o => hB1.alloc hB1.size o
  have HI := Lib.hid (h.stays hB1)
  have HB1 := Lib.hid (bchain hw hB1)
  have h1 := h.oneCell
  have HK := Lib.hid hk
  clear h hB1 hB2 hw hk
  unfold tv
  go_enter Try.func18, Try.ntmps18
  go_wp2_with fail
  refine (kind_must_no t v 1 w0 _ HB1.out HI.out HK.out).mono ?_
  rintro e w1 ⟨rfl, b1⟩
  have HB := Lib.hid b1
  clear b1
  unfold wrong
  go_wp2_with fail
  exact ⟨rfl, rfl, HB.out⟩
theorem kind_mustint_ok (n : Int) (hf : Fit n) (w0 w : World) (hw : Below w0.heap.size w0 w) :
    Calls Try.prog 18 #[tv (.iface 64 (.int .i64 n))] w fun e w' => e = .returned (.int .i64 n) ∧ Below w0.heap.size w0 w' := by
  have HW := Lib.hid hw
  clear hw
  have a1 := must_number
  unfold tv
  go_enter Try.func18, Try.ntmps18
  go_wp2_with fail
  refine (kind_must_ok (A := fun _ => True) (.num n) _ 1 _ _ (Below.refl _ _) (.num hf) rfl).mono ?_
  rintro e w1 ⟨rfl, b1⟩
  have hc : w1.cell? ⟨w.heap.size, 0, none⟩ = some (.iface 64 (.int .i64 n)) := by
    rw [(bcell b1).1 _ _ (by simp)]
    simp [go_sem]
  have HB := Lib.hid (bchain (below_box HW.out _) b1)
  clear b1
  go_wp2_with fail
  go_ret
  exact ⟨rfl, HB.out⟩
end Go.Proofs.Ytfmfeagfinnmmab
