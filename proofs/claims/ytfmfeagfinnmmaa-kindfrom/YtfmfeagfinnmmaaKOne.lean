/- impostlaw8's one; FromList of things that lie apart from the list handed in. -/
import Derived.Test.YtfmfeagfinnmmaaKOwn
namespace Go.Proofs.Ytfmfeagfinnmmaa
open Go.RowKit
open Go.Sort (grow)
open Vl (T)
open Mem Tg

theorem from_list2 (ao : Option Addr) (n cap : Nat) (A A2 : Nat → Prop) (ts : List Th) (vs : List Value) (w0 w : World) (hw : Below w0.heap.size w0 w) (hn : n = vs.length) (hn9 : n ≤ 100000) (hs : SegV A w ao vs) (hE : Each A2 w ts vs) :
    Calls Try.prog 30 #[.slice ao n cap] w fun e w' => (∃ v, e = .returned (tv v) ∧ Is (fun b => A2 b ∨ w.heap.size ≤ b) w' (.list ts) v) ∧ Below w0.heap.size w0 w' := by
  have HW := Lib.hid hw
  have hB1 : Below w.heap.size w (w.alloc (.cells #[.nilIface] 25)) := (Below.refl _ _).alloc (Nat.le_refl _) _
  have hs' : SegV A (w.alloc (.cells #[.nilIface] 25)) ao vs := hs.frame (fun _ _ _ _ e => by rw [(bcell hB1).1 _ _ (cell_lt e)]; exact e) (fun _ _ _ _ a => a)
  have hl := hE.1
  have hE0 : Each (fun b => A2 b ∧ b < w.heap.size) w ts vs := hE.frame (fun _ _ _ _ e => e) (fun _ _ _ e a => ⟨a, cell_lt e⟩)
  have HE := Lib.hid (hE0.below hB1)
  have H1 := Lib.hid hE.oneCell
  have HS := Lib.hid hs'
  have HN := Lib.hid hn
  have HB1 := Lib.hid hB1
  have HL := Lib.hid hl
  clear hw hn hs hs' hE hB1 hE0 hl
  go_enter Try.func30, Try.ntmps30
  go_wp2_with fail
  refine (kind_own ao n cap A vs w _ HB1.out HN.out hn9 HS.out H1.out).mono ?_
  rintro e w1 ⟨rfl, hb, hb1, hb0⟩
  have HBk := Lib.hid hb
  have HE1 := Lib.hid (HE.out.below hb1)
  have hc : w1.cell? ⟨w.heap.size, 0, none⟩ = some .nilIface := by
    rw [(bcell hb1).1 _ _ (by simp)]
    simp [go_sem]
  have hfz : w1.frozen? ⟨w.heap.size, 0, none⟩ = false := by
    rw [(bcell hb1).2 _ _ (by simp)]
    simp [go_sem]
  have HB0 := Lib.hid (bchain HW.out hb0)
  have HW0 := Lib.hid hb0
  have hsz : (w.alloc (.cells #[.nilIface] 25)).heap.size = w.heap.size + 1 := by simp
  rw [hsz] at HBk
  clear hb hb1 hb0 hsz
  go_wp2_with fail
  refine bodyPost_ret (v := tv (.iface 70 (.slice (some ⟨w.heap.size + 1, 0, none⟩) n n))) (by simp [results, tv, Try.results30, go_sem, hc]) rfl ⟨⟨_, rfl, ?_⟩, HB0.out.setCell (p := ⟨w.heap.size, 0, none⟩) HW.out.size _⟩
  have hk : ∀ b o x, b ≠ w.heap.size → w1.cell? ⟨b, o, none⟩ = some x → (w1.setCell ⟨w.heap.size, 0, none⟩ (.iface 70 (.slice (some ⟨w.heap.size + 1, 0, none⟩) n n))).cell? ⟨b, o, none⟩ = some x := by
    intro b o x hne hx
    simp [go_sem, hx]
  refine .list (vs := vs) (by rw [HL.out]; exact HN.out) HN.out (Nat.le_refl _) (by omega) hn9 (fun k => by cases k) ?_ ?_
  · exact (Block.seg (A := fun b => b = w.heap.size + 1) HBk.out rfl).frame (fun b a o x e => hk b o x (by omega) e) (fun b _ _ _ a => .inr (by omega))
  · exact (HE1.out.frame (A' := fun b => A2 b ∨ w.heap.size ≤ b) (fun b a o x e => hk b o x (by omega) e) (fun b _ _ _ a => .inl a.1)).2
/-- things that hold no others lie nowhere -/
theorem Tg.Is.apart {A : Nat → Prop} {w : World} {t : Th} {v : Value} (h : Is A w t v) (hk : t.kids = []) (A' : Nat → Prop) (w' : World) : Is A' w' t v := by
  cases h with
  | nothing => exact .nothing
  | num h => exact .num h
  | text h => exact .text h
  | flag => exact .flag
  | day a b c => exact .day a b c
  | @list ts vs ao n cap h1 h2 h3 h4 h5 h6 h7 h8 =>
    obtain rfl : ts = [] := hk
    obtain rfl : n = 0 := h1
    have hv : vs = [] := List.length_eq_zero_iff.1 h2.symm
    subst hv
    exact .list (vs := []) rfl rfl h3 h4 h5 h6 (.inl rfl) (fun i h => by simp at h)
/-- what impostlaw8's one makes of a value -/
def oneT (x : T) : Th := if x.kind = 5 then .list [] else Th.one x
theorem oneT_kids (x : T) : (oneT x).kids = [] := by
  unfold oneT
  split
  · rfl
  · unfold Th.one
    repeat (first | rfl | split)
theorem oneT_flat (x : T) : (oneT x).flat = [(oneT x).head] := by rw [Th.flat_eq, oneT_kids, Th.flats]
theorem oneT_fits (x : T) : (oneT x).fits 0 0 := by
  refine Th.fits_of (fun _ => by omega) ?_ ?_
  · rw [oneT_kids]
    simp
  · rw [oneT_kids]
    simp [Th.flats]
set_option maxHeartbeats 1000000 in
theorem one_any (x : T) (hs : Vl.Short x) (w0 w : World) (hw : Below w0.heap.size w0 w) :
    Calls Try.prog 29 #[.agg #[.int .i64 x.kind, .int .i64 x.n, .string x.text, .int .i64 x.y, .int .i64 x.m, .int .i64 x.d]] w fun e w' => (∃ v, e = .returned (tv v) ∧ ∀ A u, Is A u (oneT x) v) ∧ Below w0.heap.size w0 w' := by
  have HW := Lib.hid hw
  clear hw
  obtain ⟨k, n, text, y, m, d⟩ := x
  obtain ⟨_, s1, s2, s3, s4, s5⟩ := hs
  dsimp only at s1 s2 s3 s4 s5
  unfold oneT Th.one
  dsimp only
  by_cases k1 : k = 1
  · subst k1
    go_enter Try.func29, Try.ntmps29
    go_wp2_with fail
    refine (from_int n _ _ (Below.refl _ _)).mono ?_
    rintro e w1 ⟨rfl, b1⟩
    have hc : w1.cell? ⟨w.heap.size + 1, 0, none⟩ = some .nilIface := by
      rw [(bcell b1).1 _ _ (by simp)]
      simp [go_sem]
    have hfz : w1.frozen? ⟨w.heap.size + 1, 0, none⟩ = false := by
      rw [(bcell b1).2 _ _ (by simp)]
      simp [go_sem]
    have HB := Lib.hid (bchain (below_box (below_box HW.out _) _) b1)
    clear b1
    unfold tv
    go_wp2_with fail
    exact bodyPost_ret (v := tv (.iface 73 (.int .i64 n))) (by simp [results, tv, Try.results29, go_sem, hc]) rfl ⟨⟨_, rfl, fun A u => by simpa using (Is.num s1 : Is A u _ _)⟩, HB.out.setCell (p := ⟨w.heap.size + 1, 0, none⟩) (by have := HW.out.size; simp; omega) _⟩
  by_cases k2 : k = 2
  · subst k2
    go_enter Try.func29, Try.ntmps29
    go_wp2_with fail
    refine (from_text text _ _ (Below.refl _ _)).mono ?_
    rintro e w1 ⟨rfl, b1⟩
    have hc : w1.cell? ⟨w.heap.size + 1, 0, none⟩ = some .nilIface := by
      rw [(bcell b1).1 _ _ (by simp)]
      simp [go_sem]
    have hfz : w1.frozen? ⟨w.heap.size + 1, 0, none⟩ = false := by
      rw [(bcell b1).2 _ _ (by simp)]
      simp [go_sem]
    have HB := Lib.hid (bchain (below_box (below_box HW.out _) _) b1)
    clear b1
    unfold tv
    go_wp2_with fail
    exact bodyPost_ret (v := tv (.iface 74 (.string text))) (by simp [results, tv, Try.results29, go_sem, hc]) rfl ⟨⟨_, rfl, fun A u => by simpa using (Is.text s2 : Is A u _ _)⟩, HB.out.setCell (p := ⟨w.heap.size + 1, 0, none⟩) (by have := HW.out.size; simp; omega) _⟩
  by_cases k3 : k = 3
  · subst k3
    go_enter Try.func29, Try.ntmps29
    go_wp2_with fail
    refine (from_flag (n == 1) _ _ (Below.refl _ _)).mono ?_
    rintro e w1 ⟨rfl, b1⟩
    have hc : w1.cell? ⟨w.heap.size + 1, 0, none⟩ = some .nilIface := by
      rw [(bcell b1).1 _ _ (by simp)]
      simp [go_sem]
    have hfz : w1.frozen? ⟨w.heap.size + 1, 0, none⟩ = false := by
      rw [(bcell b1).2 _ _ (by simp)]
      simp [go_sem]
    have HB := Lib.hid (bchain (below_box (below_box HW.out _) _) b1)
    clear b1
    unfold tv
    go_wp2_with fail
    exact bodyPost_ret (v := tv (.iface 77 (.bool (n == 1)))) (by simp [results, tv, Try.results29, go_sem, hc]) rfl ⟨⟨_, rfl, fun A u => by simpa using (Is.flag  : Is A u _ _)⟩, HB.out.setCell (p := ⟨w.heap.size + 1, 0, none⟩) (by have := HW.out.size; simp; omega) _⟩
  by_cases k4 : k = 4
  · subst k4
    go_enter Try.func29, Try.ntmps29
    go_wp2_with fail
    refine (from_date y m d _ _ (Below.refl _ _)).mono ?_
    rintro e w1 ⟨rfl, b1⟩
    have hc : w1.cell? ⟨w.heap.size + 1, 0, none⟩ = some .nilIface := by
      rw [(bcell b1).1 _ _ (by simp)]
      simp [go_sem]
    have hfz : w1.frozen? ⟨w.heap.size + 1, 0, none⟩ = false := by
      rw [(bcell b1).2 _ _ (by simp)]
      simp [go_sem]
    have HB := Lib.hid (bchain (below_box (below_box HW.out _) _) b1)
    clear b1
    unfold tv
    go_wp2_with fail
    exact bodyPost_ret (v := tv (.iface 78 (.agg #[.int .i64 y, .int .i64 m, .int .i64 d]))) (by simp [results, tv, Try.results29, go_sem, hc]) rfl ⟨⟨_, rfl, fun A u => by simpa using (Is.day s3 s4 s5 : Is A u _ _)⟩, HB.out.setCell (p := ⟨w.heap.size + 1, 0, none⟩) (by have := HW.out.size; simp; omega) _⟩
  by_cases k5 : k = 5
  · subst k5
    go_enter Try.func29, Try.ntmps29
    go_wp2_with fail
    refine (from_list none 0 0 (fun _ => True) [] [] _ _ (Below.refl _ _) rfl (by omega) (.inl rfl) .nil).mono ?_
    rintro e w1 ⟨⟨v, rfl, hI⟩, b1⟩
    have hc : w1.cell? ⟨w.heap.size + 1, 0, none⟩ = some .nilIface := by
      rw [(bcell b1).1 _ _ (by simp)]
      simp [go_sem]
    have hfz : w1.frozen? ⟨w.heap.size + 1, 0, none⟩ = false := by
      rw [(bcell b1).2 _ _ (by simp)]
      simp [go_sem]
    have hst := store_at hc hfz hI.oneCell
    have HI := Lib.hid hI
    have HB := Lib.hid (bchain (below_box (below_box HW.out _) _) b1)
    clear b1 hI
    unfold tv
    go_wp2_with fail
    exact bodyPost_ret (v := tv v) (by simp [results, tv, Try.results29, go_sem, hc]) rfl ⟨⟨_, rfl, fun A u => HI.out.apart rfl A u⟩, HB.out.setCell (p := ⟨w.heap.size + 1, 0, none⟩) (by have := HW.out.size; simp; omega) _⟩
  have q1 : (k == 1) = false := beq_eq_false_iff_ne.2 k1
  have q2 : (k == 2) = false := beq_eq_false_iff_ne.2 k2
  have q3 : (k == 3) = false := beq_eq_false_iff_ne.2 k3
  have q4 : (k == 4) = false := beq_eq_false_iff_ne.2 k4
  have q5 : (k == 5) = false := beq_eq_false_iff_ne.2 k5
  rw [if_neg k5, if_neg k1, if_neg k2, if_neg k3, if_neg k4]
  go_enter Try.func29, Try.ntmps29
  go_wp2_with fail
  exact bodyPost_ret (v := tv .nilIface) (by simp [results, tv, Try.results29, go_sem]) rfl ⟨⟨_, rfl, fun _ _ => .nothing⟩, by repeat (first | exact HW.out | refine below_box ?_ _ | refine Below.setCell ?_ (by have := HW.out.size; simp; omega) _)⟩
/-- a thing stored into a slice of the call's own -/
theorem Tg.own_put {w : World} {B g n cap : Nat} {M : List Value} (h : Own w B (.slice (some ⟨g, 0, none⟩) n cap) M) (k : Nat) (v : Value) : Own (w.setCell ⟨g, k, none⟩ v) B (.slice (some ⟨g, 0, none⟩) n cap) (M.set k v) := by
  rcases h.2 with ⟨h', _⟩ | ⟨g', cap', cur, h', hb, hg, hnc, hcm, hcs, htake⟩
  · cases h'
  · simp only [Value.slice.injEq, Option.some.injEq, Addr.mk.injEq, and_true] at h'
    obtain ⟨e1, e2, e3⟩ := h'
    subst e1 e3
    have h1 := heap_setCell_same _ g k _ _ v hg
    refine ⟨by rw [Nat.mul_one], .inr ⟨g, cap, _, by rw [List.length_set, e2], hb, h1, by rw [List.length_set]; exact hnc, hcm, by simpa using hcs, ?_⟩⟩
    rw [List.length_set]
    simp only [Array.toList_setIfInBounds, List.take_set]
    rw [htake]
theorem Tg.own_here {w : World} {B g n cap : Nat} {M : List Value} (h : Own w B (.slice (some ⟨g, 0, none⟩) n cap) M) (k : Nat) (hk : k < M.length) : w.cell? ⟨g, k, none⟩ = some M[k] ∧ (∀ o, w.frozen? ⟨g, o, none⟩ = false) ∧ B ≤ g := by
  rcases h.2 with ⟨h', _⟩ | ⟨g', cap', cur, h', hb, hg, hnc, hcm, hcs, htake⟩
  · cases h'
  · simp only [Value.slice.injEq, Option.some.injEq, Addr.mk.injEq, and_true] at h'
    obtain ⟨e1, e2, e3⟩ := h'
    subst e1 e3
    refine ⟨?_, fun o => frozen_of_row w g o _ _ hg, hb⟩
    rw [cell_of_row w g _ _ _ _ hg]
    rw [Nat.mul_one] at htake
    have e : (cur.toList.take M.length)[k]? = M[k]? := by rw [htake]
    rw [List.getElem?_take_of_lt hk, List.getElem?_eq_getElem hk] at e
    simpa using e
theorem Tg.own_some {w : World} {B n cap : Nat} {ao : Option Addr} {M : List Value} (h : Own w B (.slice ao n cap) M) (hp : 0 < M.length) : ∃ g, ao = some ⟨g, 0, none⟩ ∧ n = M.length := by
  rcases h.2 with ⟨_, h2⟩ | ⟨g', cap', cur, h', _⟩
  · omega
  · simp only [Value.slice.injEq] at h'
    exact ⟨g', h'.1, h'.2.1⟩
end Go.Proofs.Ytfmfeagfinnmmaa
