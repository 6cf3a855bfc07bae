/- api.Balance: ROWS THAT CAME IN: one, and a slice of them. (By genrows.py.) -/
import Derived.Test.YtgnepgkmjgpkeaaArgsN
import Derived.Test.YtgnepgkmjgpkeaaBaA
import Derived.Deep.Slices
import Derived.SizedLaws
namespace Go.Proofs.Ytgnepgkmjgpkeaa.Ba
open Go.ChangeShapes Go.WideShapes Go.ChangeAt Go.RowKit Mem
set_option maxRecDepth 100000
set_option linter.unusedVariables false

theorem cellsOf : Try.prog.cellsOf 33 = 2 := by kernel_rfl
/-- what a row reads as -/
def datum (H : Type) (r : T) : DataW H := .agg [.lit (.string (txt r.acct)), .lit (.int .i64 r.amt)]
theorem open_cells {H : Type} {enc : TypeId × Value → H} {w : World} {base : Nat} {spare : Nat → Bool} {held : Bool} {fuel : Nat} {cs : List Value} {x : DataW H × List MemPlace}
    (h : DataW.trod enc Try.prog w base spare held fuel 33 cs = some x) : ∃ r : T, cs = rv r ∧ x.1 = datum H r ∧ Fit r.amt := by
  obtain ⟨xs, n, _, rfl, hl, hxl, hf⟩ := DataW.trod_struct Try.underlying33 h
  rw [cellsOf] at hl
  match cs, hl with
  | [v0, v1], _ =>
    match xs, hxl with
    | [y0, y1], _ =>
      have g0 : DataW.trod enc Try.prog w base spare held n 9 (List.take (Try.prog.cellsOf 9) (List.drop 0 [v0, v1])) = some y0 := hf 0 _ rfl
      rw [show Try.prog.cellsOf 9 = 1 by kernel_rfl] at g0
      simp only [List.drop, List.take] at g0
      have g1 : DataW.trod enc Try.prog w base spare held n 3 (List.take (Try.prog.cellsOf 3) (List.drop 1 [v0, v1])) = some y1 := hf 1 _ rfl
      rw [show Try.prog.cellsOf 3 = 1 by kernel_rfl] at g1
      simp only [List.drop, List.take] at g1
      obtain ⟨x0, e0, rfl, _⟩ := DataW.trod_string Try.underlying9 g0
      obtain ⟨x1, e1, rfl, w1⟩ := DataW.trod_int Try.underlying3 g1
      simp only [List.cons.injEq, and_true] at e0 e1
      subst e0 e1
      exact ⟨⟨x0, x1⟩, rfl, rfl, fit_in w1⟩
theorem weights_acct {H : Type} (r : T) : (txt r.acct).length ∈ (datum H r).weights Try.prog 33 := by
  unfold datum
  simp [DataW.weights, Try.underlying33, DataW.weightsEach]
theorem one_in {H : Type} {enc : TypeId × Value → H} {W : World} {base b0 : Nat} {spare : Nat → Bool} {held : Bool} {rr : Reach} {v : Value} {d : DataW H} {p : List MemPlace} {ts : List TypeId} {ds : List (DataW H)} (j : Nat)
    (hv : Value.okWide Try.prog W rr b0 33 v) (h : DataW.Trod enc Try.prog W base spare held 33 v d p)
    (hsz : (DataW.weightsEach Try.prog ts ds).all (· ≤ reachBytes) = true) (ht : ts[j]? = some 33) (hd : ds[j]? = some d) : ∃ r : T, v = val r ∧ Short r := by
  obtain ⟨cs, rfl, hc⟩ := okWide_struct Try.underlying33 hv
  obtain ⟨fuel, hf⟩ := h
  obtain ⟨r, e, hx, hf0⟩ := open_cells hf
  have hd' : d = datum H r := hx
  subst hd'
  have hs_acct : r.acct.size ≤ 140737488355328 := by
    have hw := List.all_eq_true.1 hsz _ (DataW.weights_mem_each ht hd _ (weights_acct r))
    rw [decide_eq_true_eq, txt_len] at hw
    unfold reachBytes at hw
    omega
  refine ⟨r, ?_, ⟨hs_acct, hf0⟩⟩
  have e' : cs.toList = rv r := e
  unfold val
  congr 1
  apply Array.toList_inj.1
  rw [e']
  rfl
theorem weights_all {H : Type} {P : Program} {e : TypeId} {d : DataW H} {n : Nat} (hn : n ∈ d.weights P e) : ∀ (l : List (DataW H)), d ∈ l → n ∈ DataW.weightsAll P e l
  | a :: l, h => by
    rw [DataW.weightsAll, List.mem_append]
    rcases List.mem_cons.1 h with rfl | h
    · exact .inl hn
    · exact .inr (weights_all hn l h)
/-- a row lies at an address -/
def AtA (w : World) (a : Addr) (r : T) : Prop := ∀ p, p < 2 → w.cell? (a.add p) = (rv r)[p]?
/-- the texts are no longer than what may be read -/
def Tight (r : T) : Prop := r.acct.size ≤ 140737488351232
theorem list_tight {H : Type} {enc : TypeId × Value → H} {W : World} {ao : Option Addr} {n cap : Nat} {d : DataW H} {p : List MemPlace} {ts : List TypeId} {ds : List (DataW H)} (j : Nat)
    (hj : DataW.Trod enc Try.prog W 0 (fun _ => true) true 22 (.slice ao n cap) d p)
    (hsz : (DataW.weightsEach Try.prog ts ds).all (· ≤ reachBytes) = true) (ht : ts[j]? = some 22) (hd : ds[j]? = some d) : ∃ rs, Ls W ao n cap rs ∧ ∀ r ∈ rs, Tight r := by
  haveI : Inhabited T := ⟨zero⟩
  obtain ⟨fuel, hf⟩ := hj
  rcases Go.Deep.open_slice Try.underlying22 hf with ⟨hcs, _⟩ | ⟨a, len, c, m, k, D, Pl, hcs, _, hl, hm, hmm, hx, hel⟩
  · simp [Value.cells] at hcs
    obtain ⟨rfl, rfl, rfl⟩ := hcs
    exact ⟨[], ls_nil W, by simp⟩
  · simp [Value.cells] at hcs
    obtain ⟨rfl, rfl, rfl⟩ := hcs
    simp only [if_true] at hmm
    subst hmm
    obtain ⟨R, hR⟩ := Go.Deep.choose_lt (α := T) (n := m) (p := fun i r => AtA W (a.add (i * 2)) r ∧ D i = datum H r ∧ Fit r.amt) (fun i hi => by
      obtain ⟨cs', h1, h2⟩ := hel i hi
      rw [cellsOf] at h1
      obtain ⟨_, _, hcell⟩ := World.cells?_some h1
      obtain ⟨r, e, hx', f⟩ := open_cells h2
      subst e
      exact ⟨r, fun p hp => hcell p hp, hx', f⟩)
    have hd' := congrArg Prod.fst hx
    simp only at hd'
    rw [hd'] at hd
    have hall : ∀ r ∈ (List.range n).map R, Short r ∧ Tight r := by
      intro r hr
      obtain ⟨i, hi, rfl⟩ := List.mem_map.1 hr
      rw [List.mem_range] at hi
      obtain ⟨_, hDi, hf0⟩ := hR i (by omega)
      have hq_acct : (R i).acct.size ≤ 140737488351232 := by
        have hw := List.all_eq_true.1 hsz _ (DataW.weights_mem_each ht hd (txt (R i).acct).length (by
          rw [DataW.weights, Try.underlying22]
          refine List.mem_cons_of_mem _ (List.mem_append.2 (.inl (weights_all (weights_acct (R i)) _ ?_)))
          rw [← hDi]
          exact List.mem_map.2 ⟨i, List.mem_range.2 hi, rfl⟩))
        rw [decide_eq_true_eq, txt_len] at hw
        unfold reachBytes at hw
        omega
      have hs_acct : (R i).acct.size ≤ 140737488355328 := Nat.le_trans hq_acct (by omega)
      exact ⟨⟨hs_acct, hf0⟩, hq_acct⟩
    refine ⟨(List.range n).map R, ⟨by simp, hl, hm, (fun h => by cases h), ?_, fun r hr => (hall r hr).1⟩, fun r hr => (hall r hr).2⟩
    · by_cases h0 : 0 < n
      · obtain ⟨b, off, spot⟩ := a
        have h1 := (hR 0 (by omega)).1 0 (by omega)
        have hspot : spot = none := by
          have h2 : W.cell? ((Addr.mk b off spot).add 0) = some (.string (R 0).acct) := by
            rw [show (Addr.mk b off spot).add 0 = ((Addr.mk b off spot).add (0 * 2)).add 0 by simp [Addr.add]]
            exact h1
          simpa [Addr.add] using World.cell?_spot h2
        subst hspot
        refine .inr ⟨b, off, rfl, fun k hk => ?_⟩
        simp only [List.length_map, List.length_range] at hk
        have hcell : ∀ p, p < 2 → W.cell? ⟨b, off + k * 2 + p, none⟩ = (rv (R k))[p]? := by
          intro p hp
          rw [← (hR k (by omega)).1 p hp, Go.WideShapes.add_plain, Go.WideShapes.add_plain]
        simp only [List.getElem_map, List.getElem_range]
        exact ⟨hcell 0 (by omega), hcell 1 (by omega)⟩
      · exact .inl (by rw [show n = 0 by omega]; rfl)
theorem list_in {H : Type} {enc : TypeId × Value → H} {W : World} {ao : Option Addr} {n cap : Nat} {d : DataW H} {p : List MemPlace} {ts : List TypeId} {ds : List (DataW H)} (j : Nat)
    (hj : DataW.Trod enc Try.prog W 0 (fun _ => true) true 22 (.slice ao n cap) d p)
    (hsz : (DataW.weightsEach Try.prog ts ds).all (· ≤ reachBytes) = true) (ht : ts[j]? = some 22) (hd : ds[j]? = some d) : ∃ rs, Ls W ao n cap rs := by
  obtain ⟨rs, h, _⟩ := list_tight j hj hsz ht hd
  exact ⟨rs, h⟩
end Go.Proofs.Ytgnepgkmjgpkeaa.Ba
