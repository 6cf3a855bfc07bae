/- MERGED: ArgsD, ArgsR, LnIn, PtIn, TtIn, IvIn. (By mg11.py.) -/
import Derived.Test.YthcaecinjmnlbabHa
import Derived.Test.YthcaecinjmnlbabHd
import Derived.Lib.SmallJoins
import Derived.Test.YthcaecinjmnlbabHf
import Derived.Deep.Slices
import Derived.SizedLaws
import Derived.Test.YthcaecinjmnlbabHb
import Derived.Test.YthcaecinjmnlbabHc
/- A DAY THAT CAME IN, as the walks speak of it. -/
namespace Go.Proofs.Ythcaecinjmnlbab
open Go.ChangeShapes Go.WideShapes Go.ChangeAt Go.RowKit Go.Joins
set_option maxRecDepth 100000

theorem cellsDate : Try.prog.cellsOf 24 = 3 := by kernel_rfl
theorem open_day {H : Type} {enc : TypeId × Value → H} {w : World} {base : Nat} {spare : Nat → Bool} {held : Bool} {r : Reach} {b0 : Nat} {v : Value} {d : DataW H} {p : List MemPlace}
    (hv : Value.okWide Try.prog w r b0 24 v) (h : DataW.Trod enc Try.prog w base spare held 24 v d p) :
    ∃ y m e : Int, v = dayV y m e ∧ d = .agg [.lit (.int .i64 y), .lit (.int .i64 m), .lit (.int .i64 e)] ∧ p = [] ∧ (Lit.int .i64 y).wf = true ∧ (Lit.int .i64 m).wf = true ∧ (Lit.int .i64 e).wf = true := by
  obtain ⟨c0, c1, c2, y0, y1, y2, n, rfl, rfl, rfl, h0, h1, h2⟩ := open_agg3 Try.underlying24 (by kernel_rfl) cellsDate hv h
  obtain ⟨a, e0, rfl, wa⟩ := DataW.trod_int Try.underlying3 h0
  obtain ⟨b, e1, rfl, wb⟩ := DataW.trod_int Try.underlying3 h1
  obtain ⟨c, e2, rfl, wc⟩ := DataW.trod_int Try.underlying3 h2
  simp at e0 e1 e2
  subst e0 e1 e2
  exact ⟨a, b, c, rfl, rfl, rfl, wa, wb, wc⟩
theorem shut_day {H : Type} {enc : TypeId × Value → H} {w : World} {base : Nat} {spare : Nat → Bool} {held : Bool} {y m e : Int} (wy : (Lit.int .i64 y).wf = true) (wm : (Lit.int .i64 m).wf = true) (we : (Lit.int .i64 e).wf = true) :
    DataW.Trod enc Try.prog w base spare held 24 (dayV y m e) (.agg [.lit (.int .i64 y), .lit (.int .i64 m), .lit (.int .i64 e)]) [] :=
  shut_agg3 (y0 := (.lit (.int .i64 y), [])) (y1 := (.lit (.int .i64 m), [])) (y2 := (.lit (.int .i64 e), [])) Try.underlying24 (by kernel_rfl) cellsDate ⟨1, by simp [DataW.trod, Try.underlying3, wy]⟩ ⟨1, by simp [DataW.trod, Try.underlying3, wm]⟩ ⟨1, by simp [DataW.trod, Try.underlying3, we]⟩
end Go.Proofs.Ythcaecinjmnlbab

/- ROWS OF RATES THAT CAME IN: one, and a slice of them. -/
namespace Go.Proofs.Ythcaecinjmnlbab
open Go.ChangeShapes Go.WideShapes Go.ChangeAt Go.RowKit Go.Joins
open Vt (Rt)
set_option maxRecDepth 100000

theorem cellsRate : Try.prog.cellsOf 45 = 5 := by kernel_rfl
theorem bytesRate : Try.prog.bytesOf 45 = 48 := by kernel_rfl
/-- what a row reads as -/
def rowD (H : Type) (r : Rt) : DataW H := .agg [.lit (.string (txt r.cat)), .agg [.lit (.int .i64 r.y), .lit (.int .i64 r.m), .lit (.int .i64 r.d)], .lit (.int .i64 r.bp)]
theorem open_cells {H : Type} {enc : TypeId × Value → H} {w : World} {base : Nat} {spare : Nat → Bool} {held : Bool} {fuel : Nat} {cs : List Value} {x : DataW H × List MemPlace}
    (h : DataW.trod enc Try.prog w base spare held fuel 45 cs = some x) : ∃ r : Rt, cs = rv r ∧ x.1 = rowD H r ∧ Fit r.y ∧ Fit r.m ∧ Fit r.d ∧ Fit r.bp := by
  obtain ⟨xs, n, _, rfl, hl, hxl, hf⟩ := DataW.trod_struct Try.underlying45 h
  rw [cellsRate] at hl
  match cs, hl with
  | [v0, v1, v2, v3, v4], _ =>
    match xs, hxl with
    | [y0, y1, y2], _ =>
      have g0 : DataW.trod enc Try.prog w base spare held n 9 (List.take (Try.prog.cellsOf 9) (List.drop 0 [v0, v1, v2, v3, v4])) = some y0 := hf 0 _ rfl
      have g1 : DataW.trod enc Try.prog w base spare held n 24 (List.take (Try.prog.cellsOf 24) (List.drop 1 [v0, v1, v2, v3, v4])) = some y1 := hf 1 _ rfl
      have g2 : DataW.trod enc Try.prog w base spare held n 3 (List.take (Try.prog.cellsOf 3) (List.drop 4 [v0, v1, v2, v3, v4])) = some y2 := hf 2 _ rfl
      rw [show Try.prog.cellsOf 9 = 1 by kernel_rfl] at g0
      rw [cellsDate] at g1
      rw [show Try.prog.cellsOf 3 = 1 by kernel_rfl] at g2
      simp only [List.drop, List.take] at g0 g1 g2
      obtain ⟨s, e0, rfl, _⟩ := DataW.trod_string Try.underlying9 g0
      obtain ⟨b, e2, rfl, wb⟩ := DataW.trod_int Try.underlying3 g2
      obtain ⟨zs, k, _, rfl, _, hzl, hg⟩ := DataW.trod_struct Try.underlying24 g1
      match zs, hzl with
      | [z0, z1, z2], _ =>
        have d0 : DataW.trod enc Try.prog w base spare held k 3 (List.take (Try.prog.cellsOf 3) (List.drop 0 [v1, v2, v3])) = some z0 := hg 0 _ rfl
        have d1 : DataW.trod enc Try.prog w base spare held k 3 (List.take (Try.prog.cellsOf 3) (List.drop 1 [v1, v2, v3])) = some z1 := hg 1 _ rfl
        have d2 : DataW.trod enc Try.prog w base spare held k 3 (List.take (Try.prog.cellsOf 3) (List.drop 2 [v1, v2, v3])) = some z2 := hg 2 _ rfl
        rw [show Try.prog.cellsOf 3 = 1 by kernel_rfl] at d0 d1 d2
        simp only [List.drop, List.take] at d0 d1 d2
        obtain ⟨p, f0, rfl, wp⟩ := DataW.trod_int Try.underlying3 d0
        obtain ⟨q, f1, rfl, wq⟩ := DataW.trod_int Try.underlying3 d1
        obtain ⟨t, f2, rfl, wt⟩ := DataW.trod_int Try.underlying3 d2
        simp only [List.cons.injEq, and_true] at e0 e2 f0 f1 f2
        subst e0 e2 f0 f1 f2
        exact ⟨⟨s, p, q, t, b⟩, rfl, rfl, fit_in wp, fit_in wq, fit_in wt, fit_in wb⟩
theorem weights_row {H : Type} (r : Rt) : (txt r.cat).length ∈ (rowD H r).weights Try.prog 45 := by
  unfold rowD
  simp [DataW.weights, Try.underlying45, DataW.weightsEach]
theorem rate_in {H : Type} {enc : TypeId × Value → H} {W : World} {base b0 : Nat} {spare : Nat → Bool} {held : Bool} {rr : Reach} {v : Value} {d : DataW H} {p : List MemPlace} {ts : List TypeId} {ds : List (DataW H)} (j : Nat)
    (hv : Value.okWide Try.prog W rr b0 45 v) (h : DataW.Trod enc Try.prog W base spare held 45 v d p)
    (hsz : (DataW.weightsEach Try.prog ts ds).all (· ≤ reachBytes) = true) (ht : ts[j]? = some 45) (hd : ds[j]? = some d) : ∃ r : Rt, v = rowV r ∧ Short r := by
  obtain ⟨cs, rfl, hc⟩ := okWide_struct Try.underlying45 hv
  obtain ⟨fuel, hf⟩ := h
  obtain ⟨r, e, hx, f1, f2, f3, f4⟩ := open_cells hf
  have hd' : d = rowD H r := hx
  subst hd'
  have hw := List.all_eq_true.1 hsz _ (DataW.weights_mem_each ht hd _ (weights_row r))
  rw [decide_eq_true_eq, txt_len] at hw
  refine ⟨r, ?_, ⟨by unfold reachBytes at hw; omega, f1, f2, f3, f4⟩⟩
  have e' : cs.toList = rv r := e
  unfold rowV
  congr 1
  apply Array.toList_inj.1
  rw [e']
  rfl
theorem weights_all {H : Type} {P : Program} {e : TypeId} {d : DataW H} {n : Nat} (hn : n ∈ d.weights P e) : ∀ (l : List (DataW H)), d ∈ l → n ∈ DataW.weightsAll P e l
  | a :: l, h => by
    rw [DataW.weightsAll, List.mem_append]
    rcases List.mem_cons.1 h with rfl | h
    · exact .inl hn
    · exact .inr (weights_all hn l h)
/-- a row lies at an address -/
def RowAtA (w : World) (a : Addr) (r : Rt) : Prop := ∀ p, p < 5 → w.cell? (a.add p) = (rv r)[p]?
theorem rates_in {H : Type} {enc : TypeId × Value → H} {W : World} {ao : Option Addr} {n cap : Nat} {d : DataW H} {p : List MemPlace} {ts : List TypeId} {ds : List (DataW H)} (j : Nat)
    (hj : DataW.Trod enc Try.prog W 0 (fun _ => true) true 22 (.slice ao n cap) d p)
    (hsz : (DataW.weightsEach Try.prog ts ds).all (· ≤ reachBytes) = true) (ht : ts[j]? = some 22) (hd : ds[j]? = some d) : ∃ rs, Rts W ao n cap rs := by
  haveI : Inhabited Rt := ⟨⟨.empty, 0, 0, 0, 0⟩⟩
  obtain ⟨fuel, hf⟩ := hj
  rcases Go.Deep.open_slice Try.underlying22 hf with ⟨hcs, _⟩ | ⟨a, len, c, m, k, D, Pl, hcs, _, hl, hm, hmm, hx, hel⟩
  · simp [Value.cells] at hcs
    obtain ⟨rfl, rfl, rfl⟩ := hcs
    exact ⟨[], rfl, by omega, by omega, fun _ => rfl, .inl rfl, by simp⟩
  · simp [Value.cells] at hcs
    obtain ⟨rfl, rfl, rfl⟩ := hcs
    simp only [if_true] at hmm
    subst hmm
    obtain ⟨R, hR⟩ := Go.Deep.choose_lt (α := Rt) (n := m) (p := fun i r => RowAtA W (a.add (i * 5)) r ∧ D i = rowD H r ∧ Fit r.y ∧ Fit r.m ∧ Fit r.d ∧ Fit r.bp) (fun i hi => by
      obtain ⟨cs', h1, h2⟩ := hel i hi
      rw [cellsRate] at h1
      obtain ⟨_, _, hcell⟩ := World.cells?_some h1
      obtain ⟨r, e, hx', f⟩ := open_cells h2
      subst e
      exact ⟨r, fun p hp => hcell p hp, hx', f⟩)
    have hd' := congrArg Prod.fst hx
    simp only at hd'
    rw [hd'] at hd
    refine ⟨(List.range n).map R, by simp, hl, hm, (fun h => by cases h), ?_, ?_⟩
    · by_cases h0 : 0 < n
      · obtain ⟨b, off, spot⟩ := a
        have h1 := (hR 0 (by omega)).1 0 (by omega)
        have hspot : spot = none := by
          have h2 : W.cell? ((Addr.mk b off spot).add 0) = some (.string (R 0).cat) := by
            rw [show (Addr.mk b off spot).add 0 = ((Addr.mk b off spot).add (0 * 5)).add 0 by simp [Addr.add]]
            exact h1
          simpa [Addr.add] using World.cell?_spot h2
        subst hspot
        refine .inr ⟨b, off, rfl, fun k hk => ?_⟩
        simp only [List.length_map, List.length_range] at hk
        have hc : ∀ p, p < 5 → W.cell? ⟨b, off + k * 5 + p, none⟩ = (rv (R k))[p]? := by
          intro p hp
          rw [← (hR k (by omega)).1 p hp, Go.WideShapes.add_plain, Go.WideShapes.add_plain]
        simp only [List.getElem_map, List.getElem_range]
        exact ⟨hc 0 (by omega), hc 1 (by omega), hc 2 (by omega), hc 3 (by omega), hc 4 (by omega)⟩
      · exact .inl (by rw [show n = 0 by omega]; rfl)
    · intro r hr
      obtain ⟨i, hi, rfl⟩ := List.mem_map.1 hr
      rw [List.mem_range] at hi
      obtain ⟨_, hDi, f1, f2, f3, f4⟩ := hR i (by omega)
      have hw := List.all_eq_true.1 hsz _ (DataW.weights_mem_each ht hd (txt (R i).cat).length (by
        rw [DataW.weights, Try.underlying22]
        refine List.mem_cons_of_mem _ (List.mem_append.2 (.inl (weights_all (weights_row (R i)) _ ?_)))
        rw [← hDi]
        exact List.mem_map.2 ⟨i, List.mem_range.2 hi, rfl⟩))
      rw [decide_eq_true_eq, txt_len] at hw
      exact ⟨by unfold reachBytes at hw; omega, f1, f2, f3, f4⟩
end Go.Proofs.Ythcaecinjmnlbab

/- api.Line: ROWS THAT CAME IN: one, and a slice of them. (By genrows.py.) -/
namespace Go.Proofs.Ythcaecinjmnlbab.Ln
open Go.ChangeShapes Go.WideShapes Go.ChangeAt Go.RowKit Mem
set_option maxRecDepth 100000
set_option linter.unusedVariables false

theorem cellsOf : Try.prog.cellsOf 30 = 4 := by kernel_rfl
/-- what a row reads as -/
def datum (H : Type) (r : T) : DataW H := .agg [.lit (.string (txt r.text)), .lit (.string (txt r.category)), .lit (.int .i64 r.count), .lit (.int .i64 r.price)]
theorem open_cells {H : Type} {enc : TypeId × Value → H} {w : World} {base : Nat} {spare : Nat → Bool} {held : Bool} {fuel : Nat} {cs : List Value} {x : DataW H × List MemPlace}
    (h : DataW.trod enc Try.prog w base spare held fuel 30 cs = some x) : ∃ r : T, cs = rv r ∧ x.1 = datum H r ∧ Fit r.count ∧ Fit r.price := by
  obtain ⟨xs, n, _, rfl, hl, hxl, hf⟩ := DataW.trod_struct Try.underlying30 h
  rw [cellsOf] at hl
  match cs, hl with
  | [v0, v1, v2, v3], _ =>
    match xs, hxl with
    | [y0, y1, y2, y3], _ =>
      have g0 : DataW.trod enc Try.prog w base spare held n 9 (List.take (Try.prog.cellsOf 9) (List.drop 0 [v0, v1, v2, v3])) = some y0 := hf 0 _ rfl
      rw [show Try.prog.cellsOf 9 = 1 by kernel_rfl] at g0
      simp only [List.drop, List.take] at g0
      have g1 : DataW.trod enc Try.prog w base spare held n 9 (List.take (Try.prog.cellsOf 9) (List.drop 1 [v0, v1, v2, v3])) = some y1 := hf 1 _ rfl
      rw [show Try.prog.cellsOf 9 = 1 by kernel_rfl] at g1
      simp only [List.drop, List.take] at g1
      have g2 : DataW.trod enc Try.prog w base spare held n 3 (List.take (Try.prog.cellsOf 3) (List.drop 2 [v0, v1, v2, v3])) = some y2 := hf 2 _ rfl
      rw [show Try.prog.cellsOf 3 = 1 by kernel_rfl] at g2
      simp only [List.drop, List.take] at g2
      have g3 : DataW.trod enc Try.prog w base spare held n 3 (List.take (Try.prog.cellsOf 3) (List.drop 3 [v0, v1, v2, v3])) = some y3 := hf 3 _ rfl
      rw [show Try.prog.cellsOf 3 = 1 by kernel_rfl] at g3
      simp only [List.drop, List.take] at g3
      obtain ⟨x0, e0, rfl, _⟩ := DataW.trod_string Try.underlying9 g0
      obtain ⟨x1, e1, rfl, _⟩ := DataW.trod_string Try.underlying9 g1
      obtain ⟨x2, e2, rfl, w2⟩ := DataW.trod_int Try.underlying3 g2
      obtain ⟨x3, e3, rfl, w3⟩ := DataW.trod_int Try.underlying3 g3
      simp only [List.cons.injEq, and_true] at e0 e1 e2 e3
      subst e0 e1 e2 e3
      exact ⟨⟨x0, x1, x2, x3⟩, rfl, rfl, fit_in w2, fit_in w3⟩
theorem weights_text {H : Type} (r : T) : (txt r.text).length ∈ (datum H r).weights Try.prog 30 := by
  unfold datum
  simp [DataW.weights, Try.underlying30, DataW.weightsEach]
theorem weights_category {H : Type} (r : T) : (txt r.category).length ∈ (datum H r).weights Try.prog 30 := by
  unfold datum
  simp [DataW.weights, Try.underlying30, DataW.weightsEach]
theorem one_in {H : Type} {enc : TypeId × Value → H} {W : World} {base b0 : Nat} {spare : Nat → Bool} {held : Bool} {rr : Reach} {v : Value} {d : DataW H} {p : List MemPlace} {ts : List TypeId} {ds : List (DataW H)} (j : Nat)
    (hv : Value.okWide Try.prog W rr b0 30 v) (h : DataW.Trod enc Try.prog W base spare held 30 v d p)
    (hsz : (DataW.weightsEach Try.prog ts ds).all (· ≤ reachBytes) = true) (ht : ts[j]? = some 30) (hd : ds[j]? = some d) : ∃ r : T, v = val r ∧ Short r := by
  obtain ⟨cs, rfl, hc⟩ := okWide_struct Try.underlying30 hv
  obtain ⟨fuel, hf⟩ := h
  obtain ⟨r, e, hx, hf0, hf1⟩ := open_cells hf
  have hd' : d = datum H r := hx
  subst hd'
  have hs_text : r.text.size ≤ 140737488355328 := by
    have hw := List.all_eq_true.1 hsz _ (DataW.weights_mem_each ht hd _ (weights_text r))
    rw [decide_eq_true_eq, txt_len] at hw
    unfold reachBytes at hw
    omega
  have hs_category : r.category.size ≤ 140737488355328 := by
    have hw := List.all_eq_true.1 hsz _ (DataW.weights_mem_each ht hd _ (weights_category r))
    rw [decide_eq_true_eq, txt_len] at hw
    unfold reachBytes at hw
    omega
  refine ⟨r, ?_, ⟨hs_text, hs_category, hf0, hf1⟩⟩
  have e' : cs.toList = rv r := e
  unfold val
  congr 1
  apply Array.toList_inj.1
  rw [e']
  rfl
theorem weights_all {H : Type} {P : Program} {e : TypeId} {d : DataW H} {n : Nat} (hn : n ∈ d.weights P e) : ∀ (l : List (DataW H)), d ∈ l → n ∈ DataW.weightsAll P e l
  | a :: l, h => by
    rw [DataW.weightsAll, List.mem_append]
    rcases List.mem_cons.1 h with rfl | h
    · exact .inl hn
    · exact .inr (weights_all hn l h)
/-- a row lies at an address -/
def AtA (w : World) (a : Addr) (r : T) : Prop := ∀ p, p < 4 → w.cell? (a.add p) = (rv r)[p]?
theorem list_in {H : Type} {enc : TypeId × Value → H} {W : World} {ao : Option Addr} {n cap : Nat} {d : DataW H} {p : List MemPlace} {ts : List TypeId} {ds : List (DataW H)} (j : Nat)
    (hj : DataW.Trod enc Try.prog W 0 (fun _ => true) true 25 (.slice ao n cap) d p)
    (hsz : (DataW.weightsEach Try.prog ts ds).all (· ≤ reachBytes) = true) (ht : ts[j]? = some 25) (hd : ds[j]? = some d) : ∃ rs, Ls W ao n cap rs := by
  haveI : Inhabited T := ⟨zero⟩
  obtain ⟨fuel, hf⟩ := hj
  rcases Go.Deep.open_slice Try.underlying25 hf with ⟨hcs, _⟩ | ⟨a, len, c, m, k, D, Pl, hcs, _, hl, hm, hmm, hx, hel⟩
  · simp [Value.cells] at hcs
    obtain ⟨rfl, rfl, rfl⟩ := hcs
    exact ⟨[], ls_nil W⟩
  · simp [Value.cells] at hcs
    obtain ⟨rfl, rfl, rfl⟩ := hcs
    simp only [if_true] at hmm
    subst hmm
    obtain ⟨R, hR⟩ := Go.Deep.choose_lt (α := T) (n := m) (p := fun i r => AtA W (a.add (i * 4)) r ∧ D i = datum H r ∧ Fit r.count ∧ Fit r.price) (fun i hi => by
      obtain ⟨cs', h1, h2⟩ := hel i hi
      rw [cellsOf] at h1
      obtain ⟨_, _, hcell⟩ := World.cells?_some h1
      obtain ⟨r, e, hx', f⟩ := open_cells h2
      subst e
      exact ⟨r, fun p hp => hcell p hp, hx', f⟩)
    have hd' := congrArg Prod.fst hx
    simp only at hd'
    rw [hd'] at hd
    refine ⟨(List.range n).map R, by simp, hl, hm, (fun h => by cases h), ?_, ?_⟩
    · by_cases h0 : 0 < n
      · obtain ⟨b, off, spot⟩ := a
        have h1 := (hR 0 (by omega)).1 0 (by omega)
        have hspot : spot = none := by
          have h2 : W.cell? ((Addr.mk b off spot).add 0) = some (.string (R 0).text) := by
            rw [show (Addr.mk b off spot).add 0 = ((Addr.mk b off spot).add (0 * 4)).add 0 by simp [Addr.add]]
            exact h1
          simpa [Addr.add] using World.cell?_spot h2
        subst hspot
        refine .inr ⟨b, off, rfl, fun k hk => ?_⟩
        simp only [List.length_map, List.length_range] at hk
        have hcell : ∀ p, p < 4 → W.cell? ⟨b, off + k * 4 + p, none⟩ = (rv (R k))[p]? := by
          intro p hp
          rw [← (hR k (by omega)).1 p hp, Go.WideShapes.add_plain, Go.WideShapes.add_plain]
        simp only [List.getElem_map, List.getElem_range]
        exact ⟨hcell 0 (by omega), hcell 1 (by omega), hcell 2 (by omega), hcell 3 (by omega)⟩
      · exact .inl (by rw [show n = 0 by omega]; rfl)
    · intro r hr
      obtain ⟨i, hi, rfl⟩ := List.mem_map.1 hr
      rw [List.mem_range] at hi
      obtain ⟨_, hDi, hf0, hf1⟩ := hR i (by omega)
      have hs_text : (R i).text.size ≤ 140737488355328 := by
        have hw := List.all_eq_true.1 hsz _ (DataW.weights_mem_each ht hd (txt (R i).text).length (by
          rw [DataW.weights, Try.underlying25]
          refine List.mem_cons_of_mem _ (List.mem_append.2 (.inl (weights_all (weights_text (R i)) _ ?_)))
          rw [← hDi]
          exact List.mem_map.2 ⟨i, List.mem_range.2 hi, rfl⟩))
        rw [decide_eq_true_eq, txt_len] at hw
        unfold reachBytes at hw
        omega
      have hs_category : (R i).category.size ≤ 140737488355328 := by
        have hw := List.all_eq_true.1 hsz _ (DataW.weights_mem_each ht hd (txt (R i).category).length (by
          rw [DataW.weights, Try.underlying25]
          refine List.mem_cons_of_mem _ (List.mem_append.2 (.inl (weights_all (weights_category (R i)) _ ?_)))
          rw [← hDi]
          exact List.mem_map.2 ⟨i, List.mem_range.2 hi, rfl⟩))
        rw [decide_eq_true_eq, txt_len] at hw
        unfold reachBytes at hw
        omega
      exact ⟨hs_text, hs_category, hf0, hf1⟩
end Go.Proofs.Ythcaecinjmnlbab.Ln

/- api.Part: ROWS THAT CAME IN: one, and a slice of them. (By genrows.py.) -/
namespace Go.Proofs.Ythcaecinjmnlbab.Pt
open Go.ChangeShapes Go.WideShapes Go.ChangeAt Go.RowKit Mem
set_option maxRecDepth 100000
set_option linter.unusedVariables false

theorem cellsOf : Try.prog.cellsOf 55 = 4 := by kernel_rfl
/-- what a row reads as -/
def datum (H : Type) (r : T) : DataW H := .agg [.lit (.string (txt r.cat)), .lit (.int .i64 r.bp), .lit (.int .i64 r.net), .lit (.int .i64 r.tax)]
theorem open_cells {H : Type} {enc : TypeId × Value → H} {w : World} {base : Nat} {spare : Nat → Bool} {held : Bool} {fuel : Nat} {cs : List Value} {x : DataW H × List MemPlace}
    (h : DataW.trod enc Try.prog w base spare held fuel 55 cs = some x) : ∃ r : T, cs = rv r ∧ x.1 = datum H r ∧ Fit r.bp ∧ Fit r.net ∧ Fit r.tax := by
  obtain ⟨xs, n, _, rfl, hl, hxl, hf⟩ := DataW.trod_struct Try.underlying55 h
  rw [cellsOf] at hl
  match cs, hl with
  | [v0, v1, v2, v3], _ =>
    match xs, hxl with
    | [y0, y1, y2, y3], _ =>
      have g0 : DataW.trod enc Try.prog w base spare held n 9 (List.take (Try.prog.cellsOf 9) (List.drop 0 [v0, v1, v2, v3])) = some y0 := hf 0 _ rfl
      rw [show Try.prog.cellsOf 9 = 1 by kernel_rfl] at g0
      simp only [List.drop, List.take] at g0
      have g1 : DataW.trod enc Try.prog w base spare held n 3 (List.take (Try.prog.cellsOf 3) (List.drop 1 [v0, v1, v2, v3])) = some y1 := hf 1 _ rfl
      rw [show Try.prog.cellsOf 3 = 1 by kernel_rfl] at g1
      simp only [List.drop, List.take] at g1
      have g2 : DataW.trod enc Try.prog w base spare held n 3 (List.take (Try.prog.cellsOf 3) (List.drop 2 [v0, v1, v2, v3])) = some y2 := hf 2 _ rfl
      rw [show Try.prog.cellsOf 3 = 1 by kernel_rfl] at g2
      simp only [List.drop, List.take] at g2
      have g3 : DataW.trod enc Try.prog w base spare held n 3 (List.take (Try.prog.cellsOf 3) (List.drop 3 [v0, v1, v2, v3])) = some y3 := hf 3 _ rfl
      rw [show Try.prog.cellsOf 3 = 1 by kernel_rfl] at g3
      simp only [List.drop, List.take] at g3
      obtain ⟨x0, e0, rfl, _⟩ := DataW.trod_string Try.underlying9 g0
      obtain ⟨x1, e1, rfl, w1⟩ := DataW.trod_int Try.underlying3 g1
      obtain ⟨x2, e2, rfl, w2⟩ := DataW.trod_int Try.underlying3 g2
      obtain ⟨x3, e3, rfl, w3⟩ := DataW.trod_int Try.underlying3 g3
      simp only [List.cons.injEq, and_true] at e0 e1 e2 e3
      subst e0 e1 e2 e3
      exact ⟨⟨x0, x1, x2, x3⟩, rfl, rfl, fit_in w1, fit_in w2, fit_in w3⟩
theorem weights_cat {H : Type} (r : T) : (txt r.cat).length ∈ (datum H r).weights Try.prog 55 := by
  unfold datum
  simp [DataW.weights, Try.underlying55, DataW.weightsEach]
theorem one_in {H : Type} {enc : TypeId × Value → H} {W : World} {base b0 : Nat} {spare : Nat → Bool} {held : Bool} {rr : Reach} {v : Value} {d : DataW H} {p : List MemPlace} {ts : List TypeId} {ds : List (DataW H)} (j : Nat)
    (hv : Value.okWide Try.prog W rr b0 55 v) (h : DataW.Trod enc Try.prog W base spare held 55 v d p)
    (hsz : (DataW.weightsEach Try.prog ts ds).all (· ≤ reachBytes) = true) (ht : ts[j]? = some 55) (hd : ds[j]? = some d) : ∃ r : T, v = val r ∧ Short r := by
  obtain ⟨cs, rfl, hc⟩ := okWide_struct Try.underlying55 hv
  obtain ⟨fuel, hf⟩ := h
  obtain ⟨r, e, hx, hf0, hf1, hf2⟩ := open_cells hf
  have hd' : d = datum H r := hx
  subst hd'
  have hs_cat : r.cat.size ≤ 140737488355328 := by
    have hw := List.all_eq_true.1 hsz _ (DataW.weights_mem_each ht hd _ (weights_cat r))
    rw [decide_eq_true_eq, txt_len] at hw
    unfold reachBytes at hw
    omega
  refine ⟨r, ?_, ⟨hs_cat, hf0, hf1, hf2⟩⟩
  have e' : cs.toList = rv r := e
  unfold val
  congr 1
  apply Array.toList_inj.1
  rw [e']
  rfl
theorem weights_all {H : Type} {P : Program} {e : TypeId} {d : DataW H} {n : Nat} (hn : n ∈ d.weights P e) : ∀ (l : List (DataW H)), d ∈ l → n ∈ DataW.weightsAll P e l
  | a :: l, h => by
    rw [DataW.weightsAll, List.mem_append]
    rcases List.mem_cons.1 h with rfl | h
    · exact .inl hn
    · exact .inr (weights_all hn l h)
/-- a row lies at an address -/
def AtA (w : World) (a : Addr) (r : T) : Prop := ∀ p, p < 4 → w.cell? (a.add p) = (rv r)[p]?
theorem list_in {H : Type} {enc : TypeId × Value → H} {W : World} {ao : Option Addr} {n cap : Nat} {d : DataW H} {p : List MemPlace} {ts : List TypeId} {ds : List (DataW H)} (j : Nat)
    (hj : DataW.Trod enc Try.prog W 0 (fun _ => true) true 32 (.slice ao n cap) d p)
    (hsz : (DataW.weightsEach Try.prog ts ds).all (· ≤ reachBytes) = true) (ht : ts[j]? = some 32) (hd : ds[j]? = some d) : ∃ rs, Ls W ao n cap rs := by
  haveI : Inhabited T := ⟨zero⟩
  obtain ⟨fuel, hf⟩ := hj
  rcases Go.Deep.open_slice Try.underlying32 hf with ⟨hcs, _⟩ | ⟨a, len, c, m, k, D, Pl, hcs, _, hl, hm, hmm, hx, hel⟩
  · simp [Value.cells] at hcs
    obtain ⟨rfl, rfl, rfl⟩ := hcs
    exact ⟨[], ls_nil W⟩
  · simp [Value.cells] at hcs
    obtain ⟨rfl, rfl, rfl⟩ := hcs
    simp only [if_true] at hmm
    subst hmm
    obtain ⟨R, hR⟩ := Go.Deep.choose_lt (α := T) (n := m) (p := fun i r => AtA W (a.add (i * 4)) r ∧ D i = datum H r ∧ Fit r.bp ∧ Fit r.net ∧ Fit r.tax) (fun i hi => by
      obtain ⟨cs', h1, h2⟩ := hel i hi
      rw [cellsOf] at h1
      obtain ⟨_, _, hcell⟩ := World.cells?_some h1
      obtain ⟨r, e, hx', f⟩ := open_cells h2
      subst e
      exact ⟨r, fun p hp => hcell p hp, hx', f⟩)
    have hd' := congrArg Prod.fst hx
    simp only at hd'
    rw [hd'] at hd
    refine ⟨(List.range n).map R, by simp, hl, hm, (fun h => by cases h), ?_, ?_⟩
    · by_cases h0 : 0 < n
      · obtain ⟨b, off, spot⟩ := a
        have h1 := (hR 0 (by omega)).1 0 (by omega)
        have hspot : spot = none := by
          have h2 : W.cell? ((Addr.mk b off spot).add 0) = some (.string (R 0).cat) := by
            rw [show (Addr.mk b off spot).add 0 = ((Addr.mk b off spot).add (0 * 4)).add 0 by simp [Addr.add]]
            exact h1
          simpa [Addr.add] using World.cell?_spot h2
        subst hspot
        refine .inr ⟨b, off, rfl, fun k hk => ?_⟩
        simp only [List.length_map, List.length_range] at hk
        have hcell : ∀ p, p < 4 → W.cell? ⟨b, off + k * 4 + p, none⟩ = (rv (R k))[p]? := by
          intro p hp
          rw [← (hR k (by omega)).1 p hp, Go.WideShapes.add_plain, Go.WideShapes.add_plain]
        simp only [List.getElem_map, List.getElem_range]
        exact ⟨hcell 0 (by omega), hcell 1 (by omega), hcell 2 (by omega), hcell 3 (by omega)⟩
      · exact .inl (by rw [show n = 0 by omega]; rfl)
    · intro r hr
      obtain ⟨i, hi, rfl⟩ := List.mem_map.1 hr
      rw [List.mem_range] at hi
      obtain ⟨_, hDi, hf0, hf1, hf2⟩ := hR i (by omega)
      have hs_cat : (R i).cat.size ≤ 140737488355328 := by
        have hw := List.all_eq_true.1 hsz _ (DataW.weights_mem_each ht hd (txt (R i).cat).length (by
          rw [DataW.weights, Try.underlying32]
          refine List.mem_cons_of_mem _ (List.mem_append.2 (.inl (weights_all (weights_cat (R i)) _ ?_)))
          rw [← hDi]
          exact List.mem_map.2 ⟨i, List.mem_range.2 hi, rfl⟩))
        rw [decide_eq_true_eq, txt_len] at hw
        unfold reachBytes at hw
        omega
      exact ⟨hs_cat, hf0, hf1, hf2⟩
end Go.Proofs.Ythcaecinjmnlbab.Pt

/- api.Total: A TOTAL THAT CAME IN. -/
set_option linter.unusedVariables false
namespace Go.Proofs.Ythcaecinjmnlbab.Tt
open Go.ChangeShapes Go.WideShapes Go.ChangeAt Go.RowKit Mem
set_option maxRecDepth 100000

theorem cellsOf : Try.prog.cellsOf 34 = 4 := by kernel_rfl
/-- what a total reads as ('dl': its parts) -/
def datum (H : Type) (n t s : Int) (dl : DataW H) : DataW H := .agg [.lit (.int .i64 n), .lit (.int .i64 t), .lit (.int .i64 s), dl]
theorem open_cells {H : Type} {enc : TypeId × Value → H} {w : World} {base : Nat} {spare : Nat → Bool} {held : Bool} {fuel : Nat} {cs : List Value} {x : DataW H × List MemPlace}
    (h : DataW.trod enc Try.prog w base spare held fuel 34 cs = some x) : ∃ (n t s : Int) (ao : Option Addr) (k cap : Nat) (dl : DataW H) (pl : List MemPlace), cs = [.int .i64 n, .int .i64 t, .int .i64 s, .slice ao k cap] ∧ x.1 = datum H n t s dl ∧ DataW.Trod enc Try.prog w base spare held 32 (.slice ao k cap) dl pl ∧ Fit n ∧ Fit t ∧ Fit s := by
  obtain ⟨xs, n, _, rfl, hl, hxl, hf⟩ := DataW.trod_struct Try.underlying34 h
  rw [cellsOf] at hl
  match cs, hl with
  | [v0, v1, v2, v3], _ =>
    match xs, hxl with
    | [y0, y1, y2, y3], _ =>
      have g0 : DataW.trod enc Try.prog w base spare held n 3 (List.take (Try.prog.cellsOf 3) (List.drop 0 [v0, v1, v2, v3])) = some y0 := hf 0 _ rfl
      rw [show Try.prog.cellsOf 3 = 1 by kernel_rfl] at g0
      simp only [List.drop, List.take] at g0
      have g1 : DataW.trod enc Try.prog w base spare held n 3 (List.take (Try.prog.cellsOf 3) (List.drop 1 [v0, v1, v2, v3])) = some y1 := hf 1 _ rfl
      rw [show Try.prog.cellsOf 3 = 1 by kernel_rfl] at g1
      simp only [List.drop, List.take] at g1
      have g2 : DataW.trod enc Try.prog w base spare held n 3 (List.take (Try.prog.cellsOf 3) (List.drop 2 [v0, v1, v2, v3])) = some y2 := hf 2 _ rfl
      rw [show Try.prog.cellsOf 3 = 1 by kernel_rfl] at g2
      simp only [List.drop, List.take] at g2
      have g3 : DataW.trod enc Try.prog w base spare held n 32 (List.take (Try.prog.cellsOf 32) (List.drop 3 [v0, v1, v2, v3])) = some y3 := hf 3 _ rfl
      rw [show Try.prog.cellsOf 32 = 1 by kernel_rfl] at g3
      simp only [List.drop, List.take] at g3
      obtain ⟨x0, e0, rfl, w0⟩ := DataW.trod_int Try.underlying3 g0
      obtain ⟨x1, e1, rfl, w1⟩ := DataW.trod_int Try.underlying3 g1
      obtain ⟨x2, e2, rfl, w2⟩ := DataW.trod_int Try.underlying3 g2
      obtain ⟨ao, nn, cap, e3⟩ : ∃ ao nn cap, [v3] = [Value.slice ao nn cap] := by
        rcases Go.Deep.open_slice Try.underlying32 g3 with ⟨hcs, _⟩ | ⟨a, len, c, _, _, _, _, hcs, _⟩
        · exact ⟨_, _, _, hcs⟩
        · exact ⟨_, _, _, hcs⟩
      simp only [List.cons.injEq, and_true] at e0 e1 e2 e3
      subst e0 e1 e2 e3
      exact ⟨x0, x1, x2, ao, nn, cap, y3.1, y3.2, rfl, rfl, ⟨n, g3⟩, fit_in w0, fit_in w1, fit_in w2⟩
theorem weights_parts {H : Type} (n t s : Int) (dl : DataW H) (k : Nat) (h : k ∈ dl.weights Try.prog 32) : k ∈ (datum H n t s dl).weights Try.prog 34 := by
  unfold datum
  simp [DataW.weights, Try.underlying34, DataW.weightsEach, h]
/-- a total that may be handed in -/
structure In (W : World) (z : Iv.Tot) (ao : Option Addr) (k cap : Nat) : Prop where
  net : Fit z.net
  tax : Fit z.tax
  gross : Fit z.gross
  ls : Pt.Ls W ao k cap z.parts
theorem one_in {H : Type} {enc : TypeId × Value → H} {W : World} {b0 : Nat} {rr : Reach} {v : Value} {d : DataW H} {p : List MemPlace} {ts : List TypeId} {ds : List (DataW H)} (j : Nat)
    (hv : Value.okWide Try.prog W rr b0 34 v) (h : DataW.Trod enc Try.prog W 0 (fun _ => true) true 34 v d p)
    (hsz : (DataW.weightsEach Try.prog ts ds).all (· ≤ reachBytes) = true) (ht : ts[j]? = some 34) (hd : ds[j]? = some d) : ∃ (z : Iv.Tot) (ao : Option Addr) (k cap : Nat), v = val z.net z.tax z.gross (.slice ao k cap) ∧ In W z ao k cap := by
  obtain ⟨cs, rfl, hc⟩ := okWide_struct Try.underlying34 hv
  obtain ⟨fuel, hf⟩ := h
  obtain ⟨n, t, s, ao, k, cap, dl, pl, e, hx, hl, f0, f1, f2⟩ := open_cells hf
  have hd' : d = datum H n t s dl := hx
  subst hd'
  have hz : (DataW.weightsEach Try.prog [32] [dl]).all (· ≤ reachBytes) = true := by
    refine List.all_eq_true.2 fun q hk => ?_
    refine List.all_eq_true.1 hsz q (DataW.weights_mem_each ht hd q (weights_parts n t s dl q ?_))
    simpa [DataW.weightsEach] using hk
  obtain ⟨ls, hls⟩ := Pt.list_in 0 hl hz rfl rfl
  refine ⟨⟨n, t, s, ls⟩, ao, k, cap, ?_, ⟨f0, f1, f2, hls⟩⟩
  have e' : cs.toList = [.int .i64 n, .int .i64 t, .int .i64 s, .slice ao k cap] := e
  unfold val
  congr 1
  apply Array.toList_inj.1
  rw [e']
end Go.Proofs.Ythcaecinjmnlbab.Tt

/- WHAT CAME IN: rows, days, lines, totals. -/
