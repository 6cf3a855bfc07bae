/- MERGED: ArgsN, LnIn, CmIn, ByIn, ArgsC. (By mg.py.) -/
import Derived.Test.YtndfhnaafaijcaaMGa
import Derived.ProofKit
import Derived.OpenShut
import Derived.ShutString
import Derived.ChangeOld
import Derived.SizedLaws
import Derived.Test.YtndfhnaafaijcaaMGc
import Derived.Deep.Slices
/- WHAT THE FRAME OF A LAW OVER NUMBERS ALONE NEEDS. -/
namespace Go.Proofs.Ytndfhnaafaijcaa
open Go.ChangeShapes Go.WideShapes Go.ChangeAt Go.RowKit

theorem own : ownKnob Try.prog.godebug = none := by kernel_rfl
theorem laidOut : laidOutB Try.prog = true := by kernel_rfl
end Go.Proofs.Ytndfhnaafaijcaa

/- api.Line: ROWS THAT CAME IN: one, and a slice of them. (By genrows.py.) -/
namespace Go.Proofs.Ytndfhnaafaijcaa.Ln
open Go.ChangeShapes Go.WideShapes Go.ChangeAt Go.RowKit Mem
set_option maxRecDepth 100000

theorem cellsOf : Try.prog.cellsOf 56 = 4 := by kernel_rfl
/-- what a row reads as -/
def datum (H : Type) (r : T) : DataW H := .agg [.lit (.string (txt r.text)), .lit (.string (txt r.category)), .lit (.int .i64 r.count), .lit (.int .i64 r.price)]
theorem open_cells {H : Type} {enc : TypeId × Value → H} {w : World} {base : Nat} {spare : Nat → Bool} {held : Bool} {fuel : Nat} {cs : List Value} {x : DataW H × List MemPlace}
    (h : DataW.trod enc Try.prog w base spare held fuel 56 cs = some x) : ∃ r : T, cs = rv r ∧ x.1 = datum H r ∧ Fit r.count ∧ Fit r.price := by
  obtain ⟨xs, n, _, rfl, hl, hxl, hf⟩ := DataW.trod_struct Try.underlying56 h
  rw [cellsOf] at hl
  match cs, hl with
  | [v0, v1, v2, v3], _ =>
    match xs, hxl with
    | [y0, y1, y2, y3], _ =>
      have g0 : DataW.trod enc Try.prog w base spare held n 9 (List.take (Try.prog.cellsOf 9) (List.drop 0 [v0, v1, v2, v3])) = some y0 := hf 0 _ rfl
      rw [show Try.prog.cellsOf 9 = 1 by kernel_rfl] at g0
      simp only [List.drop, List.take] at g0
      have g1 : DataW.trod enc Try.prog w base spare held n 9 (List.take (Try.prog.cellsOf 9) (List.drop 1 [v0, v1, v2, v3])) = some y1 := hf 1 _ rfl
      rw [show Try.prog.cellsOf 9 = 1 by kernel_rfl] at g1
      simp only [List.drop, List.take] at g1
      have g2 : DataW.trod enc Try.prog w base spare held n 3 (List.take (Try.prog.cellsOf 3) (List.drop 2 [v0, v1, v2, v3])) = some y2 := hf 2 _ rfl
      rw [show Try.prog.cellsOf 3 = 1 by kernel_rfl] at g2
      simp only [List.drop, List.take] at g2
      have g3 : DataW.trod enc Try.prog w base spare held n 3 (List.take (Try.prog.cellsOf 3) (List.drop 3 [v0, v1, v2, v3])) = some y3 := hf 3 _ rfl
      rw [show Try.prog.cellsOf 3 = 1 by kernel_rfl] at g3
      simp only [List.drop, List.take] at g3
      obtain ⟨x0, e0, rfl, _⟩ := DataW.trod_string Try.underlying9 g0
      obtain ⟨x1, e1, rfl, _⟩ := DataW.trod_string Try.underlying9 g1
      obtain ⟨x2, e2, rfl, w2⟩ := DataW.trod_int Try.underlying3 g2
      obtain ⟨x3, e3, rfl, w3⟩ := DataW.trod_int Try.underlying3 g3
      simp only [List.cons.injEq, and_true] at e0 e1 e2 e3
      subst e0 e1 e2 e3
      exact ⟨⟨x0, x1, x2, x3⟩, rfl, rfl, fit_in w2, fit_in w3⟩
theorem weights_text {H : Type} (r : T) : (txt r.text).length ∈ (datum H r).weights Try.prog 56 := by
  unfold datum
  simp [DataW.weights, Try.underlying56, DataW.weightsEach]
theorem weights_category {H : Type} (r : T) : (txt r.category).length ∈ (datum H r).weights Try.prog 56 := by
  unfold datum
  simp [DataW.weights, Try.underlying56, DataW.weightsEach]
theorem one_in {H : Type} {enc : TypeId × Value → H} {W : World} {base b0 : Nat} {spare : Nat → Bool} {held : Bool} {rr : Reach} {v : Value} {d : DataW H} {p : List MemPlace} {ts : List TypeId} {ds : List (DataW H)} (j : Nat)
    (hv : Value.okWide Try.prog W rr b0 56 v) (h : DataW.Trod enc Try.prog W base spare held 56 v d p)
    (hsz : (DataW.weightsEach Try.prog ts ds).all (· ≤ reachBytes) = true) (ht : ts[j]? = some 56) (hd : ds[j]? = some d) : ∃ r : T, v = val r ∧ Short r := by
  obtain ⟨cs, rfl, hc⟩ := okWide_struct Try.underlying56 hv
  obtain ⟨fuel, hf⟩ := h
  obtain ⟨r, e, hx, hf0, hf1⟩ := open_cells hf
  have hd' : d = datum H r := hx
  subst hd'
  have hs_text : r.text.size ≤ 140737488355328 := by
    have hw := List.all_eq_true.1 hsz _ (DataW.weights_mem_each ht hd _ (weights_text r))
    rw [decide_eq_true_eq, txt_len] at hw
    unfold reachBytes at hw
    omega
  have hs_category : r.category.size ≤ 140737488355328 := by
    have hw := List.all_eq_true.1 hsz _ (DataW.weights_mem_each ht hd _ (weights_category r))
    rw [decide_eq_true_eq, txt_len] at hw
    unfold reachBytes at hw
    omega
  refine ⟨r, ?_, ⟨hs_text, hs_category, hf0, hf1⟩⟩
  have e' : cs.toList = rv r := e
  unfold val
  congr 1
  apply Array.toList_inj.1
  rw [e']
  rfl
theorem weights_all {H : Type} {P : Program} {e : TypeId} {d : DataW H} {n : Nat} (hn : n ∈ d.weights P e) : ∀ (l : List (DataW H)), d ∈ l → n ∈ DataW.weightsAll P e l
  | a :: l, h => by
    rw [DataW.weightsAll, List.mem_append]
    rcases List.mem_cons.1 h with rfl | h
    · exact .inl hn
    · exact .inr (weights_all hn l h)
/-- a row lies at an address -/
def AtA (w : World) (a : Addr) (r : T) : Prop := ∀ p, p < 4 → w.cell? (a.add p) = (rv r)[p]?
theorem list_in {H : Type} {enc : TypeId × Value → H} {W : World} {ao : Option Addr} {n cap : Nat} {d : DataW H} {p : List MemPlace} {ts : List TypeId} {ds : List (DataW H)} (j : Nat)
    (hj : DataW.Trod enc Try.prog W 0 (fun _ => true) true 33 (.slice ao n cap) d p)
    (hsz : (DataW.weightsEach Try.prog ts ds).all (· ≤ reachBytes) = true) (ht : ts[j]? = some 33) (hd : ds[j]? = some d) : ∃ rs, Ls W ao n cap rs := by
  haveI : Inhabited T := ⟨zero⟩
  obtain ⟨fuel, hf⟩ := hj
  rcases Go.Deep.open_slice Try.underlying33 hf with ⟨hcs, _⟩ | ⟨a, len, c, m, k, D, Pl, hcs, _, hl, hm, hmm, hx, hel⟩
  · simp [Value.cells] at hcs
    obtain ⟨rfl, rfl, rfl⟩ := hcs
    exact ⟨[], ls_nil W⟩
  · simp [Value.cells] at hcs
    obtain ⟨rfl, rfl, rfl⟩ := hcs
    simp only [if_true] at hmm
    subst hmm
    obtain ⟨R, hR⟩ := Go.Deep.choose_lt (α := T) (n := m) (p := fun i r => AtA W (a.add (i * 4)) r ∧ D i = datum H r ∧ Fit r.count ∧ Fit r.price) (fun i hi => by
      obtain ⟨cs', h1, h2⟩ := hel i hi
      rw [cellsOf] at h1
      obtain ⟨_, _, hcell⟩ := World.cells?_some h1
      obtain ⟨r, e, hx', f⟩ := open_cells h2
      subst e
      exact ⟨r, fun p hp => hcell p hp, hx', f⟩)
    have hd' := congrArg Prod.fst hx
    simp only at hd'
    rw [hd'] at hd
    refine ⟨(List.range n).map R, by simp, hl, hm, (fun h => by cases h), ?_, ?_⟩
    · by_cases h0 : 0 < n
      · obtain ⟨b, off, spot⟩ := a
        have h1 := (hR 0 (by omega)).1 0 (by omega)
        have hspot : spot = none := by
          have h2 : W.cell? ((Addr.mk b off spot).add 0) = some (.string (R 0).text) := by
            rw [show (Addr.mk b off spot).add 0 = ((Addr.mk b off spot).add (0 * 4)).add 0 by simp [Addr.add]]
            exact h1
          simpa [Addr.add] using World.cell?_spot h2
        subst hspot
        refine .inr ⟨b, off, rfl, fun k hk => ?_⟩
        simp only [List.length_map, List.length_range] at hk
        have hcell : ∀ p, p < 4 → W.cell? ⟨b, off + k * 4 + p, none⟩ = (rv (R k))[p]? := by
          intro p hp
          rw [← (hR k (by omega)).1 p hp, Go.WideShapes.add_plain, Go.WideShapes.add_plain]
        simp only [List.getElem_map, List.getElem_range]
        exact ⟨hcell 0 (by omega), hcell 1 (by omega), hcell 2 (by omega), hcell 3 (by omega)⟩
      · exact .inl (by rw [show n = 0 by omega]; rfl)
    · intro r hr
      obtain ⟨i, hi, rfl⟩ := List.mem_map.1 hr
      rw [List.mem_range] at hi
      obtain ⟨_, hDi, hf0, hf1⟩ := hR i (by omega)
      have hs_text : (R i).text.size ≤ 140737488355328 := by
        have hw := List.all_eq_true.1 hsz _ (DataW.weights_mem_each ht hd (txt (R i).text).length (by
          rw [DataW.weights, Try.underlying33]
          refine List.mem_cons_of_mem _ (List.mem_append.2 (.inl (weights_all (weights_text (R i)) _ ?_)))
          rw [← hDi]
          exact List.mem_map.2 ⟨i, List.mem_range.2 hi, rfl⟩))
        rw [decide_eq_true_eq, txt_len] at hw
        unfold reachBytes at hw
        omega
      have hs_category : (R i).category.size ≤ 140737488355328 := by
        have hw := List.all_eq_true.1 hsz _ (DataW.weights_mem_each ht hd (txt (R i).category).length (by
          rw [DataW.weights, Try.underlying33]
          refine List.mem_cons_of_mem _ (List.mem_append.2 (.inl (weights_all (weights_category (R i)) _ ?_)))
          rw [← hDi]
          exact List.mem_map.2 ⟨i, List.mem_range.2 hi, rfl⟩))
        rw [decide_eq_true_eq, txt_len] at hw
        unfold reachBytes at hw
        omega
      exact ⟨hs_text, hs_category, hf0, hf1⟩
end Go.Proofs.Ytndfhnaafaijcaa.Ln

/- api.Cmd: A FLAT COMMAND THAT CAME IN. (By gencmd.py.) -/
namespace Go.Proofs.Ytndfhnaafaijcaa.Cm
open Go.ChangeShapes Go.WideShapes Go.ChangeAt Go.RowKit Mem
set_option maxRecDepth 100000

theorem cellsOf : Try.prog.cellsOf 37 = 15 := by kernel_rfl
/-- what a command reads as ('dl': its lines) -/
def datum (H : Type) (c : T) (dl : DataW H) : DataW H := .agg [.lit (.int .i64 c.kind), .lit (.string (txt c.series)), .lit (.int .i64 c.limit), .agg [.lit (.string (txt c.cat)), .agg [.lit (.int .i64 c.fy), .lit (.int .i64 c.fm), .lit (.int .i64 c.fd)], .lit (.int .i64 c.bp)], .agg [.lit (.int .i64 c.y), .lit (.int .i64 c.m), .lit (.int .i64 c.d)], dl, .agg [.lit (.string (txt c.ofs)), .lit (.int .i64 c.ofn)], .lit (.int .i64 c.session)]
theorem open_cells {H : Type} {enc : TypeId × Value → H} {w : World} {base : Nat} {spare : Nat → Bool} {held : Bool} {fuel : Nat} {cs : List Value} {x : DataW H × List MemPlace}
    (h : DataW.trod enc Try.prog w base spare held fuel 37 cs = some x) : ∃ (c : T) (dl : DataW H) (pl : List MemPlace), cs = rv c ∧ x.1 = datum H c dl ∧ DataW.Trod enc Try.prog w base spare held 33 (.slice c.ao c.n c.cap) dl pl ∧ Fit c.kind ∧ Fit c.limit ∧ Fit c.fy ∧ Fit c.fm ∧ Fit c.fd ∧ Fit c.bp ∧ Fit c.y ∧ Fit c.m ∧ Fit c.d ∧ Fit c.ofn ∧ Fit c.session := by
  obtain ⟨xs, n, _, rfl, hl, hxl, hf⟩ := DataW.trod_struct Try.underlying37 h
  rw [cellsOf] at hl
  match cs, hl with
  | [v0, v1, v2, v3, v4, v5, v6, v7, v8, v9, v10, v11, v12, v13, v14], _ =>
    match xs, hxl with
    | [y0, y1, y2, y3, y4, y5, y6, y7], _ =>
      have g0 : DataW.trod enc Try.prog w base spare held n 3 (List.take (Try.prog.cellsOf 3) (List.drop 0 [v0, v1, v2, v3, v4, v5, v6, v7, v8, v9, v10, v11, v12, v13, v14])) = some y0 := hf 0 _ rfl
      rw [show Try.prog.cellsOf 3 = 1 by kernel_rfl] at g0
      simp only [List.drop, List.take] at g0
      have g1 : DataW.trod enc Try.prog w base spare held n 9 (List.take (Try.prog.cellsOf 9) (List.drop 1 [v0, v1, v2, v3, v4, v5, v6, v7, v8, v9, v10, v11, v12, v13, v14])) = some y1 := hf 1 _ rfl
      rw [show Try.prog.cellsOf 9 = 1 by kernel_rfl] at g1
      simp only [List.drop, List.take] at g1
      have g2 : DataW.trod enc Try.prog w base spare held n 3 (List.take (Try.prog.cellsOf 3) (List.drop 2 [v0, v1, v2, v3, v4, v5, v6, v7, v8, v9, v10, v11, v12, v13, v14])) = some y2 := hf 2 _ rfl
      rw [show Try.prog.cellsOf 3 = 1 by kernel_rfl] at g2
      simp only [List.drop, List.take] at g2
      have g3 : DataW.trod enc Try.prog w base spare held n 32 (List.take (Try.prog.cellsOf 32) (List.drop 3 [v0, v1, v2, v3, v4, v5, v6, v7, v8, v9, v10, v11, v12, v13, v14])) = some y3 := hf 3 _ rfl
      rw [show Try.prog.cellsOf 32 = 5 by kernel_rfl] at g3
      simp only [List.drop, List.take] at g3
      have g4 : DataW.trod enc Try.prog w base spare held n 30 (List.take (Try.prog.cellsOf 30) (List.drop 8 [v0, v1, v2, v3, v4, v5, v6, v7, v8, v9, v10, v11, v12, v13, v14])) = some y4 := hf 4 _ rfl
      rw [show Try.prog.cellsOf 30 = 3 by kernel_rfl] at g4
      simp only [List.drop, List.take] at g4
      have g5 : DataW.trod enc Try.prog w base spare held n 33 (List.take (Try.prog.cellsOf 33) (List.drop 11 [v0, v1, v2, v3, v4, v5, v6, v7, v8, v9, v10, v11, v12, v13, v14])) = some y5 := hf 5 _ rfl
      rw [show Try.prog.cellsOf 33 = 1 by kernel_rfl] at g5
      simp only [List.drop, List.take] at g5
      have g6 : DataW.trod enc Try.prog w base spare held n 35 (List.take (Try.prog.cellsOf 35) (List.drop 12 [v0, v1, v2, v3, v4, v5, v6, v7, v8, v9, v10, v11, v12, v13, v14])) = some y6 := hf 6 _ rfl
      rw [show Try.prog.cellsOf 35 = 2 by kernel_rfl] at g6
      simp only [List.drop, List.take] at g6
      have g7 : DataW.trod enc Try.prog w base spare held n 3 (List.take (Try.prog.cellsOf 3) (List.drop 14 [v0, v1, v2, v3, v4, v5, v6, v7, v8, v9, v10, v11, v12, v13, v14])) = some y7 := hf 7 _ rfl
      rw [show Try.prog.cellsOf 3 = 1 by kernel_rfl] at g7
      simp only [List.drop, List.take] at g7
      obtain ⟨x0, e0, rfl, w0⟩ := DataW.trod_int Try.underlying3 g0
      obtain ⟨x1, e1, rfl, _⟩ := DataW.trod_string Try.underlying9 g1
      obtain ⟨x2, e2, rfl, w2⟩ := DataW.trod_int Try.underlying3 g2
      obtain ⟨xs3, k3, _, rfl, _, hl3, hf3⟩ := DataW.trod_struct Try.underlying32 g3
      match xs3, hl3 with
      | [q3_y0, q3_y1, q3_y2], _ =>
        have q3_g0 : DataW.trod enc Try.prog w base spare held k3 9 (List.take (Try.prog.cellsOf 9) (List.drop 0 [v3, v4, v5, v6, v7])) = some q3_y0 := hf3 0 _ rfl
        rw [show Try.prog.cellsOf 9 = 1 by kernel_rfl] at q3_g0
        simp only [List.drop, List.take] at q3_g0
        have q3_g1 : DataW.trod enc Try.prog w base spare held k3 30 (List.take (Try.prog.cellsOf 30) (List.drop 1 [v3, v4, v5, v6, v7])) = some q3_y1 := hf3 1 _ rfl
        rw [show Try.prog.cellsOf 30 = 3 by kernel_rfl] at q3_g1
        simp only [List.drop, List.take] at q3_g1
        have q3_g2 : DataW.trod enc Try.prog w base spare held k3 3 (List.take (Try.prog.cellsOf 3) (List.drop 4 [v3, v4, v5, v6, v7])) = some q3_y2 := hf3 2 _ rfl
        rw [show Try.prog.cellsOf 3 = 1 by kernel_rfl] at q3_g2
        simp only [List.drop, List.take] at q3_g2
        obtain ⟨x3, e3, rfl, _⟩ := DataW.trod_string Try.underlying9 q3_g0
        obtain ⟨q3_xs1, q3_k1, _, rfl, _, q3_hl1, q3_hf1⟩ := DataW.trod_struct Try.underlying30 q3_g1
        match q3_xs1, q3_hl1 with
        | [q3_q1_y0, q3_q1_y1, q3_q1_y2], _ =>
          have q3_q1_g0 : DataW.trod enc Try.prog w base spare held q3_k1 3 (List.take (Try.prog.cellsOf 3) (List.drop 0 [v4, v5, v6])) = some q3_q1_y0 := q3_hf1 0 _ rfl
          rw [show Try.prog.cellsOf 3 = 1 by kernel_rfl] at q3_q1_g0
          simp only [List.drop, List.take] at q3_q1_g0
          have q3_q1_g1 : DataW.trod enc Try.prog w base spare held q3_k1 3 (List.take (Try.prog.cellsOf 3) (List.drop 1 [v4, v5, v6])) = some q3_q1_y1 := q3_hf1 1 _ rfl
          rw [show Try.prog.cellsOf 3 = 1 by kernel_rfl] at q3_q1_g1
          simp only [List.drop, List.take] at q3_q1_g1
          have q3_q1_g2 : DataW.trod enc Try.prog w base spare held q3_k1 3 (List.take (Try.prog.cellsOf 3) (List.drop 2 [v4, v5, v6])) = some q3_q1_y2 := q3_hf1 2 _ rfl
          rw [show Try.prog.cellsOf 3 = 1 by kernel_rfl] at q3_q1_g2
          simp only [List.drop, List.take] at q3_q1_g2
          obtain ⟨x4, e4, rfl, w4⟩ := DataW.trod_int Try.underlying3 q3_q1_g0
          obtain ⟨x5, e5, rfl, w5⟩ := DataW.trod_int Try.underlying3 q3_q1_g1
          obtain ⟨x6, e6, rfl, w6⟩ := DataW.trod_int Try.underlying3 q3_q1_g2
          obtain ⟨x7, e7, rfl, w7⟩ := DataW.trod_int Try.underlying3 q3_g2
          obtain ⟨xs4, k4, _, rfl, _, hl4, hf4⟩ := DataW.trod_struct Try.underlying30 g4
          match xs4, hl4 with
          | [q4_y0, q4_y1, q4_y2], _ =>
            have q4_g0 : DataW.trod enc Try.prog w base spare held k4 3 (List.take (Try.prog.cellsOf 3) (List.drop 0 [v8, v9, v10])) = some q4_y0 := hf4 0 _ rfl
            rw [show Try.prog.cellsOf 3 = 1 by kernel_rfl] at q4_g0
            simp only [List.drop, List.take] at q4_g0
            have q4_g1 : DataW.trod enc Try.prog w base spare held k4 3 (List.take (Try.prog.cellsOf 3) (List.drop 1 [v8, v9, v10])) = some q4_y1 := hf4 1 _ rfl
            rw [show Try.prog.cellsOf 3 = 1 by kernel_rfl] at q4_g1
            simp only [List.drop, List.take] at q4_g1
            have q4_g2 : DataW.trod enc Try.prog w base spare held k4 3 (List.take (Try.prog.cellsOf 3) (List.drop 2 [v8, v9, v10])) = some q4_y2 := hf4 2 _ rfl
            rw [show Try.prog.cellsOf 3 = 1 by kernel_rfl] at q4_g2
            simp only [List.drop, List.take] at q4_g2
            obtain ⟨x8, e8, rfl, w8⟩ := DataW.trod_int Try.underlying3 q4_g0
            obtain ⟨x9, e9, rfl, w9⟩ := DataW.trod_int Try.underlying3 q4_g1
            obtain ⟨x10, e10, rfl, w10⟩ := DataW.trod_int Try.underlying3 q4_g2
            obtain ⟨ao, nn, cap, e11⟩ : ∃ ao nn cap, [v11] = [Value.slice ao nn cap] := by
              rcases Go.Deep.open_slice Try.underlying33 g5 with ⟨hcs, _⟩ | ⟨a, len, c, _, _, _, _, hcs, _⟩
              · exact ⟨_, _, _, hcs⟩
              · exact ⟨_, _, _, hcs⟩
            obtain ⟨xs6, k6, _, rfl, _, hl6, hf6⟩ := DataW.trod_struct Try.underlying35 g6
            match xs6, hl6 with
            | [q6_y0, q6_y1], _ =>
              have q6_g0 : DataW.trod enc Try.prog w base spare held k6 9 (List.take (Try.prog.cellsOf 9) (List.drop 0 [v12, v13])) = some q6_y0 := hf6 0 _ rfl
              rw [show Try.prog.cellsOf 9 = 1 by kernel_rfl] at q6_g0
              simp only [List.drop, List.take] at q6_g0
              have q6_g1 : DataW.trod enc Try.prog w base spare held k6 3 (List.take (Try.prog.cellsOf 3) (List.drop 1 [v12, v13])) = some q6_y1 := hf6 1 _ rfl
              rw [show Try.prog.cellsOf 3 = 1 by kernel_rfl] at q6_g1
              simp only [List.drop, List.take] at q6_g1
              obtain ⟨x12, e12, rfl, _⟩ := DataW.trod_string Try.underlying9 q6_g0
              obtain ⟨x13, e13, rfl, w13⟩ := DataW.trod_int Try.underlying3 q6_g1
              obtain ⟨x14, e14, rfl, w14⟩ := DataW.trod_int Try.underlying3 g7
              simp only [List.cons.injEq, and_true] at e0 e1 e2 e3 e4 e5 e6 e7 e8 e9 e10 e11 e12 e13 e14
              subst e0 e1 e2 e3 e4 e5 e6 e7 e8 e9 e10 e11 e12 e13 e14
              exact ⟨⟨x0, x1, x2, x3, x4, x5, x6, x7, x8, x9, x10, ao, nn, cap, x12, x13, x14⟩, y5.1, y5.2, rfl, rfl, ⟨n, g5⟩, fit_in w0, fit_in w2, fit_in w4, fit_in w5, fit_in w6, fit_in w7, fit_in w8, fit_in w9, fit_in w10, fit_in w13, fit_in w14⟩
theorem weights_series {H : Type} (c : T) (dl : DataW H) : (txt c.series).length ∈ (datum H c dl).weights Try.prog 37 := by
  unfold datum
  simp [DataW.weights, Try.underlying37, Try.underlying32, Try.underlying30, Try.underlying35, DataW.weightsEach]
theorem weights_cat {H : Type} (c : T) (dl : DataW H) : (txt c.cat).length ∈ (datum H c dl).weights Try.prog 37 := by
  unfold datum
  simp [DataW.weights, Try.underlying37, Try.underlying32, Try.underlying30, Try.underlying35, DataW.weightsEach]
theorem weights_ofs {H : Type} (c : T) (dl : DataW H) : (txt c.ofs).length ∈ (datum H c dl).weights Try.prog 37 := by
  unfold datum
  simp [DataW.weights, Try.underlying37, Try.underlying32, Try.underlying30, Try.underlying35, DataW.weightsEach]
theorem weights_lines {H : Type} (c : T) (dl : DataW H) (k : Nat) (h : k ∈ dl.weights Try.prog 33) : k ∈ (datum H c dl).weights Try.prog 37 := by
  unfold datum
  simp [DataW.weights, Try.underlying37, DataW.weightsEach, h]
theorem one_in {H : Type} {enc : TypeId × Value → H} {W : World} {b0 : Nat} {rr : Reach} {v : Value} {d : DataW H} {p : List MemPlace} {ts : List TypeId} {ds : List (DataW H)} (j : Nat)
    (hv : Value.okWide Try.prog W rr b0 37 v) (h : DataW.Trod enc Try.prog W 0 (fun _ => true) true 37 v d p)
    (hsz : (DataW.weightsEach Try.prog ts ds).all (· ≤ reachBytes) = true) (ht : ts[j]? = some 37) (hd : ds[j]? = some d) : ∃ (c : T) (ls : List Ln.T), v = val c ∧ In W c ls := by
  obtain ⟨cs, rfl, hc⟩ := okWide_struct Try.underlying37 hv
  obtain ⟨fuel, hf⟩ := h
  obtain ⟨c, dl, pl, e, hx, hl, f_kind, f_limit, f_fy, f_fm, f_fd, f_bp, f_y, f_m, f_d, f_ofn, f_session⟩ := open_cells hf
  have hd' : d = datum H c dl := hx
  subst hd'
  have hs_series : c.series.size ≤ 140737488355328 := by
    have hw := List.all_eq_true.1 hsz _ (DataW.weights_mem_each ht hd _ (weights_series c dl))
    rw [decide_eq_true_eq, txt_len] at hw
    unfold reachBytes at hw
    omega
  have hs_cat : c.cat.size ≤ 140737488355328 := by
    have hw := List.all_eq_true.1 hsz _ (DataW.weights_mem_each ht hd _ (weights_cat c dl))
    rw [decide_eq_true_eq, txt_len] at hw
    unfold reachBytes at hw
    omega
  have hs_ofs : c.ofs.size ≤ 140737488355328 := by
    have hw := List.all_eq_true.1 hsz _ (DataW.weights_mem_each ht hd _ (weights_ofs c dl))
    rw [decide_eq_true_eq, txt_len] at hw
    unfold reachBytes at hw
    omega
  have hz : (DataW.weightsEach Try.prog [33] [dl]).all (· ≤ reachBytes) = true := by
    refine List.all_eq_true.2 fun k hk => ?_
    refine List.all_eq_true.1 hsz k (DataW.weights_mem_each ht hd k (weights_lines c dl k ?_))
    simpa [DataW.weightsEach] using hk
  obtain ⟨ls, hls⟩ := Ln.list_in 0 hl hz rfl rfl
  refine ⟨c, ls, ?_, ⟨hs_series, hs_cat, hs_ofs, f_kind, f_limit, f_fy, f_fm, f_fd, f_bp, f_y, f_m, f_d, f_ofn, f_session, hls⟩⟩
  have e' : cs.toList = rv c := e
  unfold val
  congr 1
  apply Array.toList_inj.1
  rw [e']
  rfl
end Go.Proofs.Ytndfhnaafaijcaa.Cm

/- A SLICE OF BYTES THAT CAME IN. -/
namespace Go.Proofs.Ytndfhnaafaijcaa.By
open Go.ChangeShapes Go.WideShapes Go.ChangeAt Go.RowKit

theorem cellsOf8 : Try.prog.cellsOf 5 = 1 := by kernel_rfl
theorem bytesOf8 : Try.prog.bytesOf 5 = 1 := by kernel_rfl
theorem list_in {H : Type} {enc : TypeId × Value → H} {W : World} {ao : Option Addr} {n cap : Nat} {d : DataW H} {p : List MemPlace} {ts : List TypeId} {ds : List (DataW H)} (j : Nat)
    (hj : DataW.Trod enc Try.prog W 0 (fun _ => true) true 38 (.slice ao n cap) d p)
    (hsz : (DataW.weightsEach Try.prog ts ds).all (· ≤ reachBytes) = true) (ht : ts[j]? = some 38) (hd : ds[j]? = some d) : ∃ bs, Ls W ao n cap bs ∧ n ≤ 140737488351232 := by
  obtain ⟨fuel, hf⟩ := hj
  rcases open_ints Try.underlying38 Try.underlying5 cellsOf8 hf with ⟨hcs, _⟩ | ⟨x, l, c, zs, hcs, _, hl, hm, hz, hx, hcell, hwz⟩
  · simp [Value.cells] at hcs
    obtain ⟨rfl, rfl, rfl⟩ := hcs
    exact ⟨[], ls_nil W, by omega⟩
  · simp [Value.cells] at hcs
    obtain ⟨rfl, rfl, rfl⟩ := hcs
    simp only [if_true] at hz
    have hd' := congrArg Prod.fst hx
    simp only at hd'
    rw [hd'] at hd
    have hr := sized_slice hsz ht hd Try.underlying38
    rw [bytesOf8] at hr
    simp only [lits, List.length_map, List.length_take, List.length_drop, reachBytes] at hr
    refine ⟨(zs.take n).map fun z => UInt8.ofNat z.toNat, ⟨by simp; omega, hl, by omega, (fun h => by cases h), ?_⟩, by omega⟩
    by_cases h0 : 0 < zs.length
    · obtain ⟨b, off, rfl, hc⟩ := ints_at hcell h0
      refine .inr ⟨b, off, rfl, fun k hk => ?_⟩
      simp only [List.length_map, List.length_take] at hk
      have h1 := hc k (by omega)
      have hmem : zs[k]'(by omega) ∈ zs := List.getElem_mem _
      have hw := hwz _ hmem
      have hb : 0 ≤ zs[k]'(by omega) ∧ zs[k]'(by omega) ≤ 255 := by simpa [Lit.wf, IntKind.min, IntKind.max, IntKind.signed, IntKind.bits] using hw
      rw [h1]
      unfold bv
      simp only [List.getElem_map, List.getElem_take]
      rw [List.getD_eq_getElem?_getD, List.getElem?_eq_getElem (by omega)]
      simp only [Option.getD_some, UInt8.toNat_ofNat']
      congr 2
      omega
    · refine .inl ?_
      have : zs = [] := List.length_eq_zero_iff.1 (by omega)
      simp [this]
end Go.Proofs.Ytndfhnaafaijcaa.By

/- WHAT THE FRAMES OF STAGE 9 NEED: commands, bytes and numbers that came in. -/
namespace Go.Proofs.Ytndfhnaafaijcaa
theorem argsC : True := trivial
end Go.Proofs.Ytndfhnaafaijcaa
