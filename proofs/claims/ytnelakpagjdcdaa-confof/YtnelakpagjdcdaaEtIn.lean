/- api.Entry: ROWS THAT CAME IN: one, and a slice of them. (By genrows.py.) -/
import Derived.Test.YtnelakpagjdcdaaArgsN
import Derived.Test.YtnelakpagjdcdaaEtA
import Derived.Deep.Slices
import Derived.SizedLaws
namespace Go.Proofs.Ytnelakpagjdcdaa.Et
open Go.ChangeShapes Go.WideShapes Go.ChangeAt Go.RowKit Mem
set_option maxRecDepth 100000
set_option linter.unusedVariables false

theorem cellsOf : Try.prog.cellsOf 35 = 3 := by kernel_rfl
/-- what a row reads as -/
def datum (H : Type) (r : T) : DataW H := .agg [.lit (.int .i64 r.term), .lit (.int .i64 r.mem), .lit (.string (txt r.data))]
theorem open_cells {H : Type} {enc : TypeId × Value → H} {w : World} {base : Nat} {spare : Nat → Bool} {held : Bool} {fuel : Nat} {cs : List Value} {x : DataW H × List MemPlace}
    (h : DataW.trod enc Try.prog w base spare held fuel 35 cs = some x) : ∃ r : T, cs = rv r ∧ x.1 = datum H r ∧ Fit r.term ∧ Fit r.mem := by
  obtain ⟨xs, n, _, rfl, hl, hxl, hf⟩ := DataW.trod_struct Try.underlying35 h
  rw [cellsOf] at hl
  match cs, hl with
  | [v0, v1, v2], _ =>
    match xs, hxl with
    | [y0, y1, y2], _ =>
      have g0 : DataW.trod enc Try.prog w base spare held n 3 (List.take (Try.prog.cellsOf 3) (List.drop 0 [v0, v1, v2])) = some y0 := hf 0 _ rfl
      rw [show Try.prog.cellsOf 3 = 1 by kernel_rfl] at g0
      simp only [List.drop, List.take] at g0
      have g1 : DataW.trod enc Try.prog w base spare held n 3 (List.take (Try.prog.cellsOf 3) (List.drop 1 [v0, v1, v2])) = some y1 := hf 1 _ rfl
      rw [show Try.prog.cellsOf 3 = 1 by kernel_rfl] at g1
      simp only [List.drop, List.take] at g1
      have g2 : DataW.trod enc Try.prog w base spare held n 9 (List.take (Try.prog.cellsOf 9) (List.drop 2 [v0, v1, v2])) = some y2 := hf 2 _ rfl
      rw [show Try.prog.cellsOf 9 = 1 by kernel_rfl] at g2
      simp only [List.drop, List.take] at g2
      obtain ⟨x0, e0, rfl, w0⟩ := DataW.trod_int Try.underlying3 g0
      obtain ⟨x1, e1, rfl, w1⟩ := DataW.trod_int Try.underlying3 g1
      obtain ⟨x2, e2, rfl, _⟩ := DataW.trod_string Try.underlying9 g2
      simp only [List.cons.injEq, and_true] at e0 e1 e2
      subst e0 e1 e2
      exact ⟨⟨x0, x1, x2⟩, rfl, rfl, fit_in w0, fit_in w1⟩
theorem weights_data {H : Type} (r : T) : (txt r.data).length ∈ (datum H r).weights Try.prog 35 := by
  unfold datum
  simp [DataW.weights, Try.underlying35, DataW.weightsEach]
theorem one_in {H : Type} {enc : TypeId × Value → H} {W : World} {base b0 : Nat} {spare : Nat → Bool} {held : Bool} {rr : Reach} {v : Value} {d : DataW H} {p : List MemPlace} {ts : List TypeId} {ds : List (DataW H)} (j : Nat)
    (hv : Value.okWide Try.prog W rr b0 35 v) (h : DataW.Trod enc Try.prog W base spare held 35 v d p)
    (hsz : (DataW.weightsEach Try.prog ts ds).all (· ≤ reachBytes) = true) (ht : ts[j]? = some 35) (hd : ds[j]? = some d) : ∃ r : T, v = val r ∧ Short r := by
  obtain ⟨cs, rfl, hc⟩ := okWide_struct Try.underlying35 hv
  obtain ⟨fuel, hf⟩ := h
  obtain ⟨r, e, hx, hf0, hf1⟩ := open_cells hf
  have hd' : d = datum H r := hx
  subst hd'
  have hs_data : r.data.size ≤ 140737488355328 := by
    have hw := List.all_eq_true.1 hsz _ (DataW.weights_mem_each ht hd _ (weights_data r))
    rw [decide_eq_true_eq, txt_len] at hw
    unfold reachBytes at hw
    omega
  refine ⟨r, ?_, ⟨hf0, hf1, hs_data⟩⟩
  have e' : cs.toList = rv r := e
  unfold val
  congr 1
  apply Array.toList_inj.1
  rw [e']
  rfl
theorem weights_all {H : Type} {P : Program} {e : TypeId} {d : DataW H} {n : Nat} (hn : n ∈ d.weights P e) : ∀ (l : List (DataW H)), d ∈ l → n ∈ DataW.weightsAll P e l
  | a :: l, h => by
    rw [DataW.weightsAll, List.mem_append]
    rcases List.mem_cons.1 h with rfl | h
    · exact .inl hn
    · exact .inr (weights_all hn l h)
/-- a row lies at an address -/
def AtA (w : World) (a : Addr) (r : T) : Prop := ∀ p, p < 3 → w.cell? (a.add p) = (rv r)[p]?
/-- the texts are no longer than what may be read -/
def Tight (r : T) : Prop := r.data.size ≤ 140737488351232
theorem list_tight {H : Type} {enc : TypeId × Value → H} {W : World} {ao : Option Addr} {n cap : Nat} {d : DataW H} {p : List MemPlace} {ts : List TypeId} {ds : List (DataW H)} (j : Nat)
    (hj : DataW.Trod enc Try.prog W 0 (fun _ => true) true 30 (.slice ao n cap) d p)
    (hsz : (DataW.weightsEach Try.prog ts ds).all (· ≤ reachBytes) = true) (ht : ts[j]? = some 30) (hd : ds[j]? = some d) : ∃ rs, Ls W ao n cap rs ∧ ∀ r ∈ rs, Tight r := by
  haveI : Inhabited T := ⟨zero⟩
  obtain ⟨fuel, hf⟩ := hj
  rcases Go.Deep.open_slice Try.underlying30 hf with ⟨hcs, _⟩ | ⟨a, len, c, m, k, D, Pl, hcs, _, hl, hm, hmm, hx, hel⟩
  · simp [Value.cells] at hcs
    obtain ⟨rfl, rfl, rfl⟩ := hcs
    exact ⟨[], ls_nil W, by simp⟩
  · simp [Value.cells] at hcs
    obtain ⟨rfl, rfl, rfl⟩ := hcs
    simp only [if_true] at hmm
    subst hmm
    obtain ⟨R, hR⟩ := Go.Deep.choose_lt (α := T) (n := m) (p := fun i r => AtA W (a.add (i * 3)) r ∧ D i = datum H r ∧ Fit r.term ∧ Fit r.mem) (fun i hi => by
      obtain ⟨cs', h1, h2⟩ := hel i hi
      rw [cellsOf] at h1
      obtain ⟨_, _, hcell⟩ := World.cells?_some h1
      obtain ⟨r, e, hx', f⟩ := open_cells h2
      subst e
      exact ⟨r, fun p hp => hcell p hp, hx', f⟩)
    have hd' := congrArg Prod.fst hx
    simp only at hd'
    rw [hd'] at hd
    have hall : ∀ r ∈ (List.range n).map R, Short r ∧ Tight r := by
      intro r hr
      obtain ⟨i, hi, rfl⟩ := List.mem_map.1 hr
      rw [List.mem_range] at hi
      obtain ⟨_, hDi, hf0, hf1⟩ := hR i (by omega)
      have hq_data : (R i).data.size ≤ 140737488351232 := by
        have hw := List.all_eq_true.1 hsz _ (DataW.weights_mem_each ht hd (txt (R i).data).length (by
          rw [DataW.weights, Try.underlying30]
          refine List.mem_cons_of_mem _ (List.mem_append.2 (.inl (weights_all (weights_data (R i)) _ ?_)))
          rw [← hDi]
          exact List.mem_map.2 ⟨i, List.mem_range.2 hi, rfl⟩))
        rw [decide_eq_true_eq, txt_len] at hw
        unfold reachBytes at hw
        omega
      have hs_data : (R i).data.size ≤ 140737488355328 := Nat.le_trans hq_data (by omega)
      exact ⟨⟨hf0, hf1, hs_data⟩, hq_data⟩
    refine ⟨(List.range n).map R, ⟨by simp, hl, hm, (fun h => by cases h), ?_, fun r hr => (hall r hr).1⟩, fun r hr => (hall r hr).2⟩
    · by_cases h0 : 0 < n
      · obtain ⟨b, off, spot⟩ := a
        have h1 := (hR 0 (by omega)).1 0 (by omega)
        have hspot : spot = none := by
          have h2 : W.cell? ((Addr.mk b off spot).add 0) = some (.int .i64 (R 0).term) := by
            rw [show (Addr.mk b off spot).add 0 = ((Addr.mk b off spot).add (0 * 3)).add 0 by simp [Addr.add]]
            exact h1
          simpa [Addr.add] using World.cell?_spot h2
        subst hspot
        refine .inr ⟨b, off, rfl, fun k hk => ?_⟩
        simp only [List.length_map, List.length_range] at hk
        have hcell : ∀ p, p < 3 → W.cell? ⟨b, off + k * 3 + p, none⟩ = (rv (R k))[p]? := by
          intro p hp
          rw [← (hR k (by omega)).1 p hp, Go.WideShapes.add_plain, Go.WideShapes.add_plain]
        simp only [List.getElem_map, List.getElem_range]
        exact ⟨hcell 0 (by omega), hcell 1 (by omega), hcell 2 (by omega)⟩
      · exact .inl (by rw [show n = 0 by omega]; rfl)
theorem list_in {H : Type} {enc : TypeId × Value → H} {W : World} {ao : Option Addr} {n cap : Nat} {d : DataW H} {p : List MemPlace} {ts : List TypeId} {ds : List (DataW H)} (j : Nat)
    (hj : DataW.Trod enc Try.prog W 0 (fun _ => true) true 30 (.slice ao n cap) d p)
    (hsz : (DataW.weightsEach Try.prog ts ds).all (· ≤ reachBytes) = true) (ht : ts[j]? = some 30) (hd : ds[j]? = some d) : ∃ rs, Ls W ao n cap rs := by
  obtain ⟨rs, h, _⟩ := list_tight j hj hsz ht hd
  exact ⟨rs, h⟩
end Go.Proofs.Ytnelakpagjdcdaa.Et
