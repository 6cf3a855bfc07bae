/- impostref8.Total: WHAT ITS WALK CARRIES. -/
import Derived.Test.YthcaecinjmnlbabHc
import Derived.Test.YthcaecinjmnlbabHe
import Derived.Test.YthcaecinjmnlbabHb
set_option linter.unusedVariables false
namespace Go.Proofs.Ythcaecinjmnlbab
open Go.RowKit
open Vt (Rt)

theorem DayC.far {u : World} {b : Nat} {y m d : Int} (h : DayC u b y m d) {g : Nat} (hne : g ≠ b) (o : Nat) (x : Value) : DayC (u.setCell ⟨g, o, none⟩ x) b y m d := by
  unfold DayC at *
  rw [World.cell?_setCell_far u _ _ x hne, World.cell?_setCell_far u _ _ x hne, World.cell?_setCell_far u _ _ x hne]
  exact h
/-- a day, the answer's place -/
structure PSt (w wr : World) (g : Nat) (y m d : Int) : Prop where
  gw : w.heap.size = g
  bel : Below w.heap.size w wr
  day : DayC wr g y m d
  res : Tt.At wr (g + 1) 0 0 0 (.slice none 0 0)
/-- and the total so far -/
structure RSt (w wr : World) (g g2 : Nat) (y m d N T : Int) (vo : Option Addr) (q vc : Nat) (ps : List Pt.T) : Prop where
  pst : PSt w wr g y m d
  lo : g + 2 ≤ g2
  tot : Tt.At wr g2 N T 0 (.slice vo q vc)
  own : Pt.Own wr (g2 + 1) (.slice vo q vc) ps
  sh : ∀ r ∈ ps, Pt.Short r
section
variable {w wr v : World} {g g2 : Nat} {y m d N T : Int} {vo : Option Addr} {q vc : Nat} {ps : List Pt.T}
theorem PSt.below (h : PSt w wr g y m d) (b : Below wr.heap.size wr v) : PSt w v g y m d := ⟨h.gw, bchain h.bel b, h.day.below b, h.res.below b⟩
theorem RSt.below (h : RSt w wr g g2 y m d N T vo q vc ps) (b : Below wr.heap.size wr v) : RSt w v g g2 y m d N T vo q vc ps :=
  ⟨h.pst.below b, h.lo, h.tot.below b, Pt.own_below h.own b, h.sh⟩
theorem PSt.set (h : PSt w wr g y m d) {b : Nat} (hb : g + 2 ≤ b) (o : Nat) (x : Value) : PSt w (wr.setCell ⟨b, o, none⟩ x) g y m d := by
  have e := h.gw
  exact ⟨e, Mem.bset h.bel (by omega) _ _, h.day.far (by omega) _ _, h.res.far (by omega) _ _⟩
theorem RSt.size (h : RSt w wr g g2 y m d N T vo q vc ps) : g2 + 1 ≤ wr.heap.size := h.tot.lt
theorem RSt.len (h : RSt w wr g g2 y m d N T vo q vc ps) : q = ps.length ∧ q ≤ vc ∧ vc ≤ 9223372036854775807 ∧ Pt.Ls wr vo q vc ps := by
  obtain ⟨ao, cap, e, hL, _⟩ := Pt.own_ls h.own h.sh
  simp only [Value.slice.injEq] at e
  obtain ⟨e1, e2, e3⟩ := e
  subst e1 e3
  rw [← e2] at hL
  exact ⟨e2, hL.fits, hL.reach, hL⟩
/-- the parts are others -/
theorem RSt.parts (h : RSt w wr g g2 y m d N T vo q vc ps) {uo : Option Addr} {p uc : Nat} {qs : List Pt.T} (ho : Pt.Own wr (g2 + 1) (.slice uo p uc) qs) (hs : ∀ r ∈ qs, Pt.Short r) : RSt w (wr.setCell ⟨g2, 3, none⟩ (.slice uo p uc)) g g2 y m d N T uo p uc qs :=
  ⟨h.pst.set h.lo _ _, h.lo, h.tot.set3 _, Pt.own_far ho (Nat.lt_succ_self _) _ _, hs⟩
theorem RSt.at (h : RSt w wr g g2 y m d N T vo q vc ps) (k : Nat) (hk : k < ps.length) : ∃ b, vo = some ⟨b, 0, none⟩ ∧ g2 + 1 ≤ b ∧ Pt.At wr b (k * 4) ps[k] ∧ (∀ o, wr.frozen? ⟨b, o, none⟩ = false) := by
  obtain ⟨ao, cap, e, hL, hg⟩ := Pt.own_ls h.own h.sh
  simp only [Value.slice.injEq] at e
  obtain ⟨e1, e2, e3⟩ := e
  subst e1 e3
  obtain ⟨b, off, hb⟩ := hL.at (by omega)
  obtain ⟨b', hb', hB⟩ := hg _ hb
  rw [hb'] at hb
  subst hb
  obtain ⟨h1, h2, h3⟩ := Pt.own_at h.own k hk
  exact ⟨b', rfl, hB, h1, h2⟩
/-- one field of one part is another -/
theorem RSt.put (h : RSt w wr g g2 y m d N T vo q vc ps) {b : Nat} (hv : vo = some ⟨b, 0, none⟩) (hb : g2 + 1 ≤ b) (k p : Nat) (hk : k < ps.length) (hp : p < 4) (x : Value) (r : Pt.T) (hr : Pt.rv r = (Pt.rv ps[k]).set p x) (hs : Pt.Short r) : RSt w (wr.setCell ⟨b, k * 4 + p, none⟩ x) g g2 y m d N T vo q vc (ps.set k r) := by
  subst hv
  have e := h.lo
  refine ⟨h.pst.set (by omega) _ _, e, h.tot.far (by omega) _ _, Pt.own_put h.own k p hk hp x r hr, ?_⟩
  intro a ha
  obtain ⟨j, hj, e'⟩ := List.getElem_of_mem ha
  rw [List.getElem_set] at e'
  split at e'
  · exact e' ▸ hs
  · exact h.sh a (e' ▸ List.getElem_mem _)
theorem RSt.setN (h : RSt w wr g g2 y m d N T vo q vc ps) (x : Int) : RSt w (wr.setCell ⟨g2, 0, none⟩ (.int .i64 x)) g g2 y m d x T vo q vc ps :=
  ⟨h.pst.set h.lo _ _, h.lo, h.tot.set0 _, Pt.own_far h.own (Nat.lt_succ_self _) _ _, h.sh⟩
theorem RSt.setT (h : RSt w wr g g2 y m d N T vo q vc ps) (x : Int) : RSt w (wr.setCell ⟨g2, 1, none⟩ (.int .i64 x)) g g2 y m d N x vo q vc ps :=
  ⟨h.pst.set h.lo _ _, h.lo, h.tot.set1 _, Pt.own_far h.own (Nat.lt_succ_self _) _ _, h.sh⟩
end
/-- what is found is a number of 64 bits -/
theorem find_fit {rs : List Rt} (hs : ∀ r ∈ rs, Short r) (c : ByteArray) (y m d : Int) : Fit (Vt.find rs c y m d).1 := by
  have h0 : Fit 0 := ⟨by omega, by omega⟩
  have hl : ∀ (l : List Rt) (acc : Int × Bool), Fit acc.1 → (∀ r ∈ l, Short r) → Fit (Vt.last c (Dt.days y m d) acc l).1 := by
    intro l
    induction l with
    | nil => intro acc h _; exact h
    | cons r l ih =>
      intro acc h hr
      unfold Vt.last
      apply ih
      · split
        · exact (hr r (by simp)).2.2.2.2
        · exact h
      · exact fun x hx => hr x (by simp [hx])
  unfold Vt.find
  split
  · exact hl rs (0, false) h0 hs
  · exact h0
theorem part_short {c : ByteArray} {bp : Int} (hc : c.size ≤ 140737488355328) (hb : Fit bp) {ps : List Pt.T} (hs : ∀ r ∈ ps, Pt.Short r) : Pt.Short (Iv.part c bp ps) := by
  have hn : Pt.Short ⟨c, bp, 0, 0⟩ := ⟨hc, hb, ⟨by show (-9223372036854775808 : Int) ≤ 0; omega, by show (0 : Int) ≤ _; omega⟩, ⟨by show (-9223372036854775808 : Int) ≤ 0; omega, by show (0 : Int) ≤ _; omega⟩⟩
  induction ps with
  | nil => exact hn
  | cons a l ih =>
    unfold Iv.part
    split
    · exact ih fun x hx => hs x (by simp [hx])
    · split
      · exact hs a (by simp)
      · exact hn
theorem ins_short {c : ByteArray} {bp : Int} (hc : c.size ≤ 140737488355328) (hb : Fit bp) {ps : List Pt.T} (hs : ∀ r ∈ ps, Pt.Short r) : ∀ r ∈ Iv.ins c bp ps, Pt.Short r := by
  have hn : Pt.Short ⟨c, bp, 0, 0⟩ := ⟨hc, hb, ⟨by show (-9223372036854775808 : Int) ≤ 0; omega, by show (0 : Int) ≤ _; omega⟩, ⟨by show (-9223372036854775808 : Int) ≤ 0; omega, by show (0 : Int) ≤ _; omega⟩⟩
  induction ps with
  | nil =>
    intro r hr
    obtain rfl := List.mem_singleton.1 hr
    exact hn
  | cons a l ih =>
    intro r hr
    unfold Iv.ins at hr
    split at hr
    · rcases List.mem_cons.1 hr with rfl | hr
      · exact hs _ (by simp)
      · exact ih (fun x hx => hs x (by simp [hx])) r hr
    · split at hr
      · exact hs r hr
      · rcases List.mem_cons.1 hr with rfl | hr
        · exact hn
        · exact hs r hr
end Go.Proofs.Ythcaecinjmnlbab
