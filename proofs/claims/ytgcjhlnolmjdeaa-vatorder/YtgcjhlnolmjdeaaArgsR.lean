/- ROWS OF RATES THAT CAME IN: one, and a slice of them. -/
import Derived.Test.YtgcjhlnolmjdeaaArgsD
import Derived.Test.YtgcjhlnolmjdeaaAppR
import Derived.Deep.Slices
import Derived.SizedLaws
namespace Go.Proofs.Ytgcjhlnolmjdeaa
open Go.ChangeShapes Go.WideShapes Go.ChangeAt Go.RowKit Go.Joins
open Vt (Rt)

theorem cellsRate : Try.prog.cellsOf 25 = 5 := by kernel_rfl
theorem bytesRate : Try.prog.bytesOf 25 = 48 := by kernel_rfl
/-- what a row reads as -/
def rowD (H : Type) (r : Rt) : DataW H := .agg [.lit (.string (txt r.cat)), .agg [.lit (.int .i64 r.y), .lit (.int .i64 r.m), .lit (.int .i64 r.d)], .lit (.int .i64 r.bp)]
theorem open_cells {H : Type} {enc : TypeId × Value → H} {w : World} {base : Nat} {spare : Nat → Bool} {held : Bool} {fuel : Nat} {cs : List Value} {x : DataW H × List MemPlace}
    (h : DataW.trod enc Try.prog w base spare held fuel 25 cs = some x) : ∃ r : Rt, cs = rv r ∧ x.1 = rowD H r ∧ Fit r.y ∧ Fit r.m ∧ Fit r.d ∧ Fit r.bp := by
  obtain ⟨xs, n, _, rfl, hl, hxl, hf⟩ := DataW.trod_struct Try.underlying25 h
  rw [cellsRate] at hl
  match cs, hl with
  | [v0, v1, v2, v3, v4], _ =>
    match xs, hxl with
    | [y0, y1, y2], _ =>
      have g0 : DataW.trod enc Try.prog w base spare held n 9 (List.take (Try.prog.cellsOf 9) (List.drop 0 [v0, v1, v2, v3, v4])) = some y0 := hf 0 _ rfl
      have g1 : DataW.trod enc Try.prog w base spare held n 23 (List.take (Try.prog.cellsOf 23) (List.drop 1 [v0, v1, v2, v3, v4])) = some y1 := hf 1 _ rfl
      have g2 : DataW.trod enc Try.prog w base spare held n 3 (List.take (Try.prog.cellsOf 3) (List.drop 4 [v0, v1, v2, v3, v4])) = some y2 := hf 2 _ rfl
      rw [show Try.prog.cellsOf 9 = 1 by kernel_rfl] at g0
      rw [cellsDate] at g1
      rw [show Try.prog.cellsOf 3 = 1 by kernel_rfl] at g2
      simp only [List.drop, List.take] at g0 g1 g2
      obtain ⟨s, e0, rfl, _⟩ := DataW.trod_string Try.underlying9 g0
      obtain ⟨b, e2, rfl, wb⟩ := DataW.trod_int Try.underlying3 g2
      obtain ⟨zs, k, _, rfl, _, hzl, hg⟩ := DataW.trod_struct Try.underlying23 g1
      match zs, hzl with
      | [z0, z1, z2], _ =>
        have d0 : DataW.trod enc Try.prog w base spare held k 3 (List.take (Try.prog.cellsOf 3) (List.drop 0 [v1, v2, v3])) = some z0 := hg 0 _ rfl
        have d1 : DataW.trod enc Try.prog w base spare held k 3 (List.take (Try.prog.cellsOf 3) (List.drop 1 [v1, v2, v3])) = some z1 := hg 1 _ rfl
        have d2 : DataW.trod enc Try.prog w base spare held k 3 (List.take (Try.prog.cellsOf 3) (List.drop 2 [v1, v2, v3])) = some z2 := hg 2 _ rfl
        rw [show Try.prog.cellsOf 3 = 1 by kernel_rfl] at d0 d1 d2
        simp only [List.drop, List.take] at d0 d1 d2
        obtain ⟨p, f0, rfl, wp⟩ := DataW.trod_int Try.underlying3 d0
        obtain ⟨q, f1, rfl, wq⟩ := DataW.trod_int Try.underlying3 d1
        obtain ⟨t, f2, rfl, wt⟩ := DataW.trod_int Try.underlying3 d2
        simp only [List.cons.injEq, and_true] at e0 e2 f0 f1 f2
        subst e0 e2 f0 f1 f2
        exact ⟨⟨s, p, q, t, b⟩, rfl, rfl, fit_in wp, fit_in wq, fit_in wt, fit_in wb⟩
theorem weights_row {H : Type} (r : Rt) : (txt r.cat).length ∈ (rowD H r).weights Try.prog 25 := by
  unfold rowD
  simp [DataW.weights, Try.underlying25, DataW.weightsEach]
theorem rate_in {H : Type} {enc : TypeId × Value → H} {W : World} {base b0 : Nat} {spare : Nat → Bool} {held : Bool} {rr : Reach} {v : Value} {d : DataW H} {p : List MemPlace} {ts : List TypeId} {ds : List (DataW H)} (j : Nat)
    (hv : Value.okWide Try.prog W rr b0 25 v) (h : DataW.Trod enc Try.prog W base spare held 25 v d p)
    (hsz : (DataW.weightsEach Try.prog ts ds).all (· ≤ reachBytes) = true) (ht : ts[j]? = some 25) (hd : ds[j]? = some d) : ∃ r : Rt, v = rowV r ∧ Short r := by
  obtain ⟨cs, rfl, hc⟩ := okWide_struct Try.underlying25 hv
  obtain ⟨fuel, hf⟩ := h
  obtain ⟨r, e, hx, f1, f2, f3, f4⟩ := open_cells hf
  have hd' : d = rowD H r := hx
  subst hd'
  have hw := List.all_eq_true.1 hsz _ (DataW.weights_mem_each ht hd _ (weights_row r))
  rw [decide_eq_true_eq, txt_len] at hw
  refine ⟨r, ?_, ⟨by unfold reachBytes at hw; omega, f1, f2, f3, f4⟩⟩
  have e' : cs.toList = rv r := e
  unfold rowV
  congr 1
  apply Array.toList_inj.1
  rw [e']
  rfl
theorem weights_all {H : Type} {P : Program} {e : TypeId} {d : DataW H} {n : Nat} (hn : n ∈ d.weights P e) : ∀ (l : List (DataW H)), d ∈ l → n ∈ DataW.weightsAll P e l
  | a :: l, h => by
    rw [DataW.weightsAll, List.mem_append]
    rcases List.mem_cons.1 h with rfl | h
    · exact .inl hn
    · exact .inr (weights_all hn l h)
/-- a row lies at an address -/
def RowAtA (w : World) (a : Addr) (r : Rt) : Prop := ∀ p, p < 5 → w.cell? (a.add p) = (rv r)[p]?
theorem rates_in {H : Type} {enc : TypeId × Value → H} {W : World} {ao : Option Addr} {n cap : Nat} {d : DataW H} {p : List MemPlace} {ts : List TypeId} {ds : List (DataW H)} (j : Nat)
    (hj : DataW.Trod enc Try.prog W 0 (fun _ => true) true 27 (.slice ao n cap) d p)
    (hsz : (DataW.weightsEach Try.prog ts ds).all (· ≤ reachBytes) = true) (ht : ts[j]? = some 27) (hd : ds[j]? = some d) : ∃ rs, Rts W ao n cap rs := by
  haveI : Inhabited Rt := ⟨⟨.empty, 0, 0, 0, 0⟩⟩
  obtain ⟨fuel, hf⟩ := hj
  rcases Go.Deep.open_slice Try.underlying27 hf with ⟨hcs, _⟩ | ⟨a, len, c, m, k, D, Pl, hcs, _, hl, hm, hmm, hx, hel⟩
  · simp [Value.cells] at hcs
    obtain ⟨rfl, rfl, rfl⟩ := hcs
    exact ⟨[], rfl, by omega, by omega, fun _ => rfl, .inl rfl, by simp⟩
  · simp [Value.cells] at hcs
    obtain ⟨rfl, rfl, rfl⟩ := hcs
    simp only [if_true] at hmm
    subst hmm
    obtain ⟨R, hR⟩ := Go.Deep.choose_lt (α := Rt) (n := m) (p := fun i r => RowAtA W (a.add (i * 5)) r ∧ D i = rowD H r ∧ Fit r.y ∧ Fit r.m ∧ Fit r.d ∧ Fit r.bp) (fun i hi => by
      obtain ⟨cs', h1, h2⟩ := hel i hi
      rw [cellsRate] at h1
      obtain ⟨_, _, hcell⟩ := World.cells?_some h1
      obtain ⟨r, e, hx', f⟩ := open_cells h2
      subst e
      exact ⟨r, fun p hp => hcell p hp, hx', f⟩)
    have hd' := congrArg Prod.fst hx
    simp only at hd'
    rw [hd'] at hd
    refine ⟨(List.range n).map R, by simp, hl, hm, (fun h => by cases h), ?_, ?_⟩
    · by_cases h0 : 0 < n
      · obtain ⟨b, off, spot⟩ := a
        have h1 := (hR 0 (by omega)).1 0 (by omega)
        have hspot : spot = none := by
          have h2 : W.cell? ((Addr.mk b off spot).add 0) = some (.string (R 0).cat) := by
            rw [show (Addr.mk b off spot).add 0 = ((Addr.mk b off spot).add (0 * 5)).add 0 by simp [Addr.add]]
            exact h1
          simpa [Addr.add] using World.cell?_spot h2
        subst hspot
        refine .inr ⟨b, off, rfl, fun k hk => ?_⟩
        simp only [List.length_map, List.length_range] at hk
        have hc : ∀ p, p < 5 → W.cell? ⟨b, off + k * 5 + p, none⟩ = (rv (R k))[p]? := by
          intro p hp
          rw [← (hR k (by omega)).1 p hp, Go.WideShapes.add_plain, Go.WideShapes.add_plain]
        simp only [List.getElem_map, List.getElem_range]
        exact ⟨hc 0 (by omega), hc 1 (by omega), hc 2 (by omega), hc 3 (by omega), hc 4 (by omega)⟩
      · exact .inl (by rw [show n = 0 by omega]; rfl)
    · intro r hr
      obtain ⟨i, hi, rfl⟩ := List.mem_map.1 hr
      rw [List.mem_range] at hi
      obtain ⟨_, hDi, f1, f2, f3, f4⟩ := hR i (by omega)
      have hw := List.all_eq_true.1 hsz _ (DataW.weights_mem_each ht hd (txt (R i).cat).length (by
        rw [DataW.weights, Try.underlying27]
        refine List.mem_cons_of_mem _ (List.mem_append.2 (.inl (weights_all (weights_row (R i)) _ ?_)))
        rw [← hDi]
        exact List.mem_map.2 ⟨i, List.mem_range.2 hi, rfl⟩))
      rw [decide_eq_true_eq, txt_len] at hw
      exact ⟨by unfold reachBytes at hw; omega, f1, f2, f3, f4⟩
end Go.Proofs.Ytgcjhlnolmjdeaa
