/- api.Session: ROWS THAT CAME IN: one, and a slice of them. (By genrows.py.) -/
import Derived.Test.YtfilanbjfnnknaaArgsN
import Derived.Test.YtfilanbjfnnknaaSnA
import Derived.Deep.Slices
import Derived.SizedLaws
namespace Go.Proofs.Ytfilanbjfnnknaa.Sn
open Go.ChangeShapes Go.WideShapes Go.ChangeAt Go.RowKit Mem
set_option maxRecDepth 100000
set_option linter.unusedVariables false

theorem cellsOf : Try.prog.cellsOf 33 = 5 := by kernel_rfl
/-- what a row reads as -/
def datum (H : Type) (r : T) : DataW H := .agg [.lit (.int .i64 r.id), .lit (.int .i64 r.last), .agg [.lit (.int .i64 r.why), .lit (.int .i64 r.num), .lit (.int .i64 r.gross)]]
theorem open_cells {H : Type} {enc : TypeId × Value → H} {w : World} {base : Nat} {spare : Nat → Bool} {held : Bool} {fuel : Nat} {cs : List Value} {x : DataW H × List MemPlace}
    (h : DataW.trod enc Try.prog w base spare held fuel 33 cs = some x) : ∃ r : T, cs = rv r ∧ x.1 = datum H r ∧ Fit r.id ∧ Fit r.last ∧ Fit r.why ∧ Fit r.num ∧ Fit r.gross := by
  obtain ⟨xs, n, _, rfl, hl, hxl, hf⟩ := DataW.trod_struct Try.underlying33 h
  rw [cellsOf] at hl
  match cs, hl with
  | [v0, v1, v2, v3, v4], _ =>
    match xs, hxl with
    | [y0, y1, y2], _ =>
      have g0 : DataW.trod enc Try.prog w base spare held n 3 (List.take (Try.prog.cellsOf 3) (List.drop 0 [v0, v1, v2, v3, v4])) = some y0 := hf 0 _ rfl
      rw [show Try.prog.cellsOf 3 = 1 by kernel_rfl] at g0
      simp only [List.drop, List.take] at g0
      have g1 : DataW.trod enc Try.prog w base spare held n 3 (List.take (Try.prog.cellsOf 3) (List.drop 1 [v0, v1, v2, v3, v4])) = some y1 := hf 1 _ rfl
      rw [show Try.prog.cellsOf 3 = 1 by kernel_rfl] at g1
      simp only [List.drop, List.take] at g1
      have g2 : DataW.trod enc Try.prog w base spare held n 24 (List.take (Try.prog.cellsOf 24) (List.drop 2 [v0, v1, v2, v3, v4])) = some y2 := hf 2 _ rfl
      rw [show Try.prog.cellsOf 24 = 3 by kernel_rfl] at g2
      simp only [List.drop, List.take] at g2
      obtain ⟨x0, e0, rfl, w0⟩ := DataW.trod_int Try.underlying3 g0
      obtain ⟨x1, e1, rfl, w1⟩ := DataW.trod_int Try.underlying3 g1
      obtain ⟨zs2, k2, _, rfl, _, hzl2, hg2⟩ := DataW.trod_struct Try.underlying24 g2
      match zs2, hzl2 with
      | [z2_0, z2_1, z2_2], _ =>
        have d2_0 : DataW.trod enc Try.prog w base spare held k2 22 (List.take (Try.prog.cellsOf 22) (List.drop 0 [v2, v3, v4])) = some z2_0 := hg2 0 _ rfl
        rw [show Try.prog.cellsOf 22 = 1 by kernel_rfl] at d2_0
        simp only [List.drop, List.take] at d2_0
        have d2_1 : DataW.trod enc Try.prog w base spare held k2 3 (List.take (Try.prog.cellsOf 3) (List.drop 1 [v2, v3, v4])) = some z2_1 := hg2 1 _ rfl
        rw [show Try.prog.cellsOf 3 = 1 by kernel_rfl] at d2_1
        simp only [List.drop, List.take] at d2_1
        have d2_2 : DataW.trod enc Try.prog w base spare held k2 3 (List.take (Try.prog.cellsOf 3) (List.drop 2 [v2, v3, v4])) = some z2_2 := hg2 2 _ rfl
        rw [show Try.prog.cellsOf 3 = 1 by kernel_rfl] at d2_2
        simp only [List.drop, List.take] at d2_2
        obtain ⟨x2, e2, rfl, w2⟩ := DataW.trod_int Try.underlying22 d2_0
        obtain ⟨x3, e3, rfl, w3⟩ := DataW.trod_int Try.underlying3 d2_1
        obtain ⟨x4, e4, rfl, w4⟩ := DataW.trod_int Try.underlying3 d2_2
        simp only [List.cons.injEq, and_true] at e0 e1 e2 e3 e4
        subst e0 e1 e2 e3 e4
        exact ⟨⟨x0, x1, x2, x3, x4⟩, rfl, rfl, fit_in w0, fit_in w1, fit_in w2, fit_in w3, fit_in w4⟩
theorem one_in {H : Type} {enc : TypeId × Value → H} {W : World} {base b0 : Nat} {spare : Nat → Bool} {held : Bool} {rr : Reach} {v : Value} {d : DataW H} {p : List MemPlace} {ts : List TypeId} {ds : List (DataW H)} (j : Nat)
    (hv : Value.okWide Try.prog W rr b0 33 v) (h : DataW.Trod enc Try.prog W base spare held 33 v d p)
    (hsz : (DataW.weightsEach Try.prog ts ds).all (· ≤ reachBytes) = true) (ht : ts[j]? = some 33) (hd : ds[j]? = some d) : ∃ r : T, v = val r ∧ Short r := by
  obtain ⟨cs, rfl, hc⟩ := okWide_struct Try.underlying33 hv
  obtain ⟨fuel, hf⟩ := h
  obtain ⟨r, e, hx, hf0, hf1, hf2, hf3, hf4⟩ := open_cells hf
  have hd' : d = datum H r := hx
  subst hd'
  refine ⟨r, ?_, ⟨hf0, hf1, hf2, hf3, hf4⟩⟩
  have e' : cs.toList = rv r := e
  unfold val
  congr 1
  apply Array.toList_inj.1
  rw [e']
  rfl
theorem weights_all {H : Type} {P : Program} {e : TypeId} {d : DataW H} {n : Nat} (hn : n ∈ d.weights P e) : ∀ (l : List (DataW H)), d ∈ l → n ∈ DataW.weightsAll P e l
  | a :: l, h => by
    rw [DataW.weightsAll, List.mem_append]
    rcases List.mem_cons.1 h with rfl | h
    · exact .inl hn
    · exact .inr (weights_all hn l h)
/-- a row lies at an address -/
def AtA (w : World) (a : Addr) (r : T) : Prop := ∀ p, p < 5 → w.cell? (a.add p) = (rv r)[p]?
/-- the texts are no longer than what may be read -/
def Tight (r : T) : Prop := True
theorem list_tight {H : Type} {enc : TypeId × Value → H} {W : World} {ao : Option Addr} {n cap : Nat} {d : DataW H} {p : List MemPlace} {ts : List TypeId} {ds : List (DataW H)} (j : Nat)
    (hj : DataW.Trod enc Try.prog W 0 (fun _ => true) true 25 (.slice ao n cap) d p)
    (hsz : (DataW.weightsEach Try.prog ts ds).all (· ≤ reachBytes) = true) (ht : ts[j]? = some 25) (hd : ds[j]? = some d) : ∃ rs, Ls W ao n cap rs ∧ ∀ r ∈ rs, Tight r := by
  haveI : Inhabited T := ⟨zero⟩
  obtain ⟨fuel, hf⟩ := hj
  rcases Go.Deep.open_slice Try.underlying25 hf with ⟨hcs, _⟩ | ⟨a, len, c, m, k, D, Pl, hcs, _, hl, hm, hmm, hx, hel⟩
  · simp [Value.cells] at hcs
    obtain ⟨rfl, rfl, rfl⟩ := hcs
    exact ⟨[], ls_nil W, by simp⟩
  · simp [Value.cells] at hcs
    obtain ⟨rfl, rfl, rfl⟩ := hcs
    simp only [if_true] at hmm
    subst hmm
    obtain ⟨R, hR⟩ := Go.Deep.choose_lt (α := T) (n := m) (p := fun i r => AtA W (a.add (i * 5)) r ∧ D i = datum H r ∧ Fit r.id ∧ Fit r.last ∧ Fit r.why ∧ Fit r.num ∧ Fit r.gross) (fun i hi => by
      obtain ⟨cs', h1, h2⟩ := hel i hi
      rw [cellsOf] at h1
      obtain ⟨_, _, hcell⟩ := World.cells?_some h1
      obtain ⟨r, e, hx', f⟩ := open_cells h2
      subst e
      exact ⟨r, fun p hp => hcell p hp, hx', f⟩)
    have hd' := congrArg Prod.fst hx
    simp only at hd'
    rw [hd'] at hd
    have hall : ∀ r ∈ (List.range n).map R, Short r ∧ Tight r := by
      intro r hr
      obtain ⟨i, hi, rfl⟩ := List.mem_map.1 hr
      rw [List.mem_range] at hi
      obtain ⟨_, hDi, hf0, hf1, hf2, hf3, hf4⟩ := hR i (by omega)
      exact ⟨⟨hf0, hf1, hf2, hf3, hf4⟩, trivial⟩
    refine ⟨(List.range n).map R, ⟨by simp, hl, hm, (fun h => by cases h), ?_, fun r hr => (hall r hr).1⟩, fun r hr => (hall r hr).2⟩
    · by_cases h0 : 0 < n
      · obtain ⟨b, off, spot⟩ := a
        have h1 := (hR 0 (by omega)).1 0 (by omega)
        have hspot : spot = none := by
          have h2 : W.cell? ((Addr.mk b off spot).add 0) = some (.int .i64 (R 0).id) := by
            rw [show (Addr.mk b off spot).add 0 = ((Addr.mk b off spot).add (0 * 5)).add 0 by simp [Addr.add]]
            exact h1
          simpa [Addr.add] using World.cell?_spot h2
        subst hspot
        refine .inr ⟨b, off, rfl, fun k hk => ?_⟩
        simp only [List.length_map, List.length_range] at hk
        have hcell : ∀ p, p < 5 → W.cell? ⟨b, off + k * 5 + p, none⟩ = (rv (R k))[p]? := by
          intro p hp
          rw [← (hR k (by omega)).1 p hp, Go.WideShapes.add_plain, Go.WideShapes.add_plain]
        simp only [List.getElem_map, List.getElem_range]
        exact ⟨hcell 0 (by omega), hcell 1 (by omega), hcell 2 (by omega), hcell 3 (by omega), hcell 4 (by omega)⟩
      · exact .inl (by rw [show n = 0 by omega]; rfl)
theorem list_in {H : Type} {enc : TypeId × Value → H} {W : World} {ao : Option Addr} {n cap : Nat} {d : DataW H} {p : List MemPlace} {ts : List TypeId} {ds : List (DataW H)} (j : Nat)
    (hj : DataW.Trod enc Try.prog W 0 (fun _ => true) true 25 (.slice ao n cap) d p)
    (hsz : (DataW.weightsEach Try.prog ts ds).all (· ≤ reachBytes) = true) (ht : ts[j]? = some 25) (hd : ds[j]? = some d) : ∃ rs, Ls W ao n cap rs := by
  obtain ⟨rs, h, _⟩ := list_tight j hj hsz ht hd
  exact ⟨rs, h⟩
end Go.Proofs.Ytfilanbjfnnknaa.Sn
