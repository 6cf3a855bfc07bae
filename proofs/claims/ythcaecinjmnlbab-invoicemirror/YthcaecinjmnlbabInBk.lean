/- CONTRACTS OF PACKAGE invoice: Back. -/
import Derived.Test.YthcaecinjmnlbabInK
import Derived.Deep.RegionHeld3
import Derived.Deep.RegionLaw
import Derived.Deep.DeepCutAuto
import Derived.Deep.CutBlock
set_option maxRecDepth 100000
set_option linter.unusedVariables false
namespace Go.Proofs.Ythcaecinjmnlbab
open Go.RowKit
open Mem

/-- all but one block stays -/
structure Upd (X w' : World) (g : Nat) : Prop where
  bel : ∀ B w0, Below B w0 X → B ≤ g → Below B w0 w'
  blk : ∀ i, i ≠ g → w'.heap[i]? = X.heap[i]?
theorem Upd.refl (X : World) (g : Nat) : Upd X X g := ⟨fun _ _ h _ => h, fun _ _ => rfl⟩
theorem Upd.set {X w' : World} {g : Nat} (h : Upd X w' g) (o : Nat) (x : Value) : Upd X (w'.setCell ⟨g, o, none⟩ x) g :=
  ⟨fun B w0 hb hg => (h.bel B w0 hb hg).setCell hg x, fun i hi => (heap_setCell_other w' ⟨g, o, none⟩ i x hi).trans (h.blk i hi)⟩
theorem Upd.at {X w' : World} {g i : Nat} (h : Upd X w' g) (hi : i ≠ g) {n t s : Int} {v : Value} (a : Tt.At X i n t s v) : Tt.At w' i n t s v := (h.blk i hi).trans a
theorem Upd.block {X w' : World} {g i : Nat} (h : Upd X w' g) (hi : i ≠ g) {M : List Pt.T} (a : Pt.Block X i M) : Pt.Block w' i M := (h.blk i hi).trans a
theorem turn3 (X : World) (h vb : Nat) (a b c : Int) (v : Value) (hA : Tt.At X h a b c v) (hP : X.heap[vb]? = some (.cells #[.pointer (some ⟨h, 0, none⟩), .pointer (some ⟨h, 1, none⟩), .pointer (some ⟨h, 2, none⟩)] 58 (0, 0))) (hne : vb ≠ h) (ha : Fit a) (hb : Fit b) (hc : Fit c) :
    Calls Try.prog 19 #[.slice (some ⟨vb, 0, none⟩) 3 3] X fun e w' => Upd X w' h ∧ ((Mn.err (-a) = 0 ∧ Mn.err (-b) = 0 ∧ Mn.err (-c) = 0 ∧ e = .returned (.int .i64 0) ∧ Tt.At w' h (-a) (-b) (-c) v) ∨ ((Mn.err (-a) ≠ 0 ∨ Mn.err (-b) ≠ 0 ∨ Mn.err (-c) ≠ 0) ∧ e = .returned (.int .i64 7))) := by
  have hA1 := hA.set0 (-a)
  have hA2 := hA1.set1 (-b)
  have hA3 := hA2.set2 (-c)
  have hU1 := (Upd.refl X h).set 0 (.int .i64 (-a))
  have hU2 := hU1.set 1 (.int .i64 (-b))
  have hU3 := hU2.set 2 (.int .i64 (-c))
  obtain ⟨X1, hX1⟩ : ∃ X1, X.setCell ⟨h, 0, none⟩ (.int .i64 (-a)) = X1 := ⟨_, rfl⟩
  rw [hX1] at hA1 hA2 hA3 hU1 hU2 hU3
  obtain ⟨X2, hX2⟩ : ∃ X2, X1.setCell ⟨h, 1, none⟩ (.int .i64 (-b)) = X2 := ⟨_, rfl⟩
  rw [hX2] at hA2 hA3 hU2 hU3
  obtain ⟨X3, hX3⟩ : ∃ X3, X2.setCell ⟨h, 2, none⟩ (.int .i64 (-c)) = X3 := ⟨_, rfl⟩
  rw [hX3] at hA3 hU3
  have hP1 := (hU1.blk vb hne).trans hP
  have hP2 := (hU2.blk vb hne).trans hP
  refine (inv_turn vb h 3 (fun k => k) (fun k => [a, b, c].getD k 0) (fun k => [X, X1, X2, X3].getD k X3) (Nat.le_refl _) ?_ ?_ ?_ ?_ ?_).mono ?_
  · intro k hk
    match k, hk with
    | 0, _ => exact (cell_of_row X vb _ _ _ _ hP).trans rfl
    | 1, _ => exact (cell_of_row X1 vb _ _ _ _ hP1).trans rfl
    | 2, _ => exact (cell_of_row X2 vb _ _ _ _ hP2).trans rfl
  · intro k hk
    match k, hk with
    | 0, _ => exact hA.cells.1
    | 1, _ => exact hA1.cells.2.1
    | 2, _ => exact hA2.cells.2.2.1
  · intro k hk
    match k, hk with
    | 0, _ => exact hA.frozen 0
    | 1, _ => exact hA1.frozen 1
    | 2, _ => exact hA2.frozen 2
  · intro k hk
    match k, hk with
    | 0, _ => exact hX1
    | 1, _ => exact hX2
    | 2, _ => exact hX3
  · intro k hk
    match k, hk with
    | 0, _ => exact ha
    | 1, _ => exact hb
    | 2, _ => exact hc
  · rintro e w' (⟨h1, h2, h3⟩ | ⟨k, hk, h1, h2, h3⟩)
    · subst h3
      exact ⟨hU3, .inl ⟨h1 0 (by omega), h1 1 (by omega), h1 2 (by omega), h2, hA3⟩⟩
    · match k, hk with
      | 0, _ => exact ⟨h3 ▸ Upd.refl X h, .inr ⟨.inl h1, h2⟩⟩
      | 1, _ => exact ⟨h3 ▸ hU1, .inr ⟨.inr (.inl h1), h2⟩⟩
      | 2, _ => exact ⟨h3 ▸ hU2, .inr ⟨.inr (.inr h1), h2⟩⟩
theorem turn2 (X : World) (g vb k : Nat) (M : List Pt.T) (r : Pt.T) (hk : k < M.length) (hr : M[k] = r) (hB : Pt.Block X g M) (hP : X.heap[vb]? = some (.cells #[.pointer (some ⟨g, k * 4 + 2, none⟩), .pointer (some ⟨g, k * 4 + 3, none⟩)] 58 (0, 0))) (hne : vb ≠ g) (ha : Fit r.net) (hb : Fit r.tax) :
    Calls Try.prog 19 #[.slice (some ⟨vb, 0, none⟩) 2 2] X fun e w' => Upd X w' g ∧ ((Iv.badP r = false ∧ e = .returned (.int .i64 0) ∧ Pt.Block w' g (M.set k (Iv.negP r))) ∨ (Iv.badP r = true ∧ e = .returned (.int .i64 7))) := by
  have hB1 := hB.put k 2 hk (by omega) (.int .i64 (-r.net)) ⟨r.cat, r.bp, -r.net, r.tax⟩ (by rw [hr]; rfl)
  have hk1 : k < (M.set k ⟨r.cat, r.bp, -r.net, r.tax⟩).length := by rw [List.length_set]; exact hk
  have hr1 : (M.set k ⟨r.cat, r.bp, -r.net, r.tax⟩)[k] = ⟨r.cat, r.bp, -r.net, r.tax⟩ := List.getElem_set_self ..
  have hB2 := hB1.put k 3 hk1 (by omega) (.int .i64 (-r.tax)) (Iv.negP r) (by rw [hr1]; rfl)
  rw [List.set_set] at hB2
  have hU1 := (Upd.refl X g).set (k * 4 + 2) (.int .i64 (-r.net))
  have hU2 := hU1.set (k * 4 + 3) (.int .i64 (-r.tax))
  obtain ⟨X1, hX1⟩ : ∃ X1, X.setCell ⟨g, k * 4 + 2, none⟩ (.int .i64 (-r.net)) = X1 := ⟨_, rfl⟩
  rw [hX1] at hB1 hB2 hU1 hU2
  obtain ⟨X2, hX2⟩ : ∃ X2, X1.setCell ⟨g, k * 4 + 3, none⟩ (.int .i64 (-r.tax)) = X2 := ⟨_, rfl⟩
  rw [hX2] at hB2 hU2
  have hP1 := (hU1.blk vb hne).trans hP
  have hrow0 := hB.row k hk
  have hrow1 := hB1.row k hk1
  rw [hr] at hrow0
  rw [hr1] at hrow1
  refine (inv_turn vb g 2 (fun j => k * 4 + 2 + j) (fun j => [r.net, r.tax].getD j 0) (fun j => [X, X1, X2].getD j X2) (by omega) ?_ ?_ ?_ ?_ ?_).mono ?_
  · intro j hj
    match j, hj with
    | 0, _ => exact (cell_of_row X vb _ _ _ _ hP).trans rfl
    | 1, _ => exact (cell_of_row X1 vb _ _ _ _ hP1).trans rfl
  · intro j hj
    match j, hj with
    | 0, _ => exact hrow0.3
    | 1, _ => exact hrow1.4
  · intro j hj
    match j, hj with
    | 0, _ => exact hB.frozen _
    | 1, _ => exact hB1.frozen _
  · intro j hj
    match j, hj with
    | 0, _ => exact hX1
    | 1, _ => exact hX2
  · intro j hj
    match j, hj with
    | 0, _ => exact ha
    | 1, _ => exact hb
  · rintro e w' (⟨h1, h2, h3⟩ | ⟨j, hj, h1, h2, h3⟩)
    · subst h3
      exact ⟨hU2, .inl ⟨Iv.bad_no (h1 0 (by omega)) (h1 1 (by omega)), h2, hB2⟩⟩
    · match j, hj with
      | 0, _ => exact ⟨h3 ▸ Upd.refl X g, .inr ⟨Iv.bad_yes (.inl h1), h2⟩⟩
      | 1, _ => exact ⟨h3 ▸ hU1, .inr ⟨Iv.bad_yes (.inr h1), h2⟩⟩
/-- the parts of which so many are taken back -/
def Iv.mixN (ps : List Pt.T) (k : Nat) : List Pt.T := (ps.take k).map Iv.negP ++ ps.drop k
theorem Iv.mixN_len (ps : List Pt.T) (k : Nat) : (Iv.mixN ps k).length = ps.length := by
  unfold Iv.mixN
  rw [List.length_append, List.length_map, List.length_take, List.length_drop]
  omega
theorem Iv.mixN_at (ps : List Pt.T) (k : Nat) (h : k < ps.length) : (Iv.mixN ps k)[k]'(by rw [Iv.mixN_len]; exact h) = ps[k] := by
  have h1 : (Iv.mixN ps k)[k]? = some ps[k] := by
    unfold Iv.mixN
    rw [List.getElem?_append_right (by rw [List.length_map, List.length_take]; omega), List.length_map, List.length_take, Nat.min_eq_left (by omega), Nat.sub_self, List.getElem?_drop, Nat.add_zero, List.getElem?_eq_getElem h]
  exact Option.some.inj ((List.getElem?_eq_getElem _).symm.trans h1)
theorem Iv.mixN_set (ps : List Pt.T) (k : Nat) (h : k < ps.length) : (Iv.mixN ps k).set k (Iv.negP ps[k]) = Iv.mixN ps (k + 1) := by
  unfold Iv.mixN
  rw [List.set_append_right _ _ (by rw [List.length_map, List.length_take]; omega), List.length_map, List.length_take, Nat.min_eq_left (by omega), Nat.sub_self, List.drop_eq_getElem_cons h, List.set_cons_zero, List.take_succ_eq_append_getElem h, List.map_append]
  simp
/-- what the walk carries from round to round -/
structure KSt (w wr : World) (h g n : Nat) (t : Iv.Tot) (k : Nat) : Prop where
  hw : w.heap.size = h
  lo : h + 2 ≤ g
  bel : Below w.heap.size w wr
  tot : Tt.At wr h (-t.net) (-t.tax) (-t.gross) (.slice (some ⟨g, 0, none⟩) n n)
  res : Tt.At wr (h + 1) 0 0 0 (.slice none 0 0)
  blk : Pt.Block wr g (Iv.mixN t.parts k)
  ok : ∀ r ∈ t.parts.take k, Iv.badP r = false
theorem KSt.below {w wr v : World} {h g n k : Nat} {t : Iv.Tot} (H : KSt w wr h g n t k) (b : Below wr.heap.size wr v) : KSt w v h g n t k :=
  ⟨H.hw, H.lo, bchain H.bel b, H.tot.below b, H.res.below b, H.blk.below b, H.ok⟩
set_option maxHeartbeats 4000000 in
theorem inv_back (t : Iv.Tot) (ao : Option Addr) (p cap : Nat) (w : World) (hL : Pt.Ls w ao p cap t.parts) (hn : Fit t.net) (ht : Fit t.tax) (hg : Fit t.gross) (hp : p ≤ 1000) :
    Calls Try.prog 9 #[Tt.val t.net t.tax t.gross (.slice ao p cap)] w (Tt.Ans w (Iv.backE t) (Iv.backT t)) := by
  have HL := Lib.hid hL
  have HLn := Lib.hid hL.len
  have HF := Lib.hid (And.intro hn (And.intro ht hg))
  clear hL hn ht hg
  have hb1 := Tt.below_own w t.net t.tax t.gross (.slice ao p cap)
  have hb2 := Tt.below_own (Tt.box w t.net t.tax t.gross (.slice ao p cap)) 0 0 0 (.slice none 0 0)
  have h1 := (Tt.at_box w t.net t.tax t.gross (.slice ao p cap)).below hb2
  have h2 := Tt.at_box (Tt.box w t.net t.tax t.gross (.slice ao p cap)) 0 0 0 (.slice none 0 0)
  rw [Tt.box_size] at h2
  obtain ⟨U, hU⟩ : ∃ U, Tt.box (Tt.box w t.net t.tax t.gross (.slice ao p cap)) 0 0 0 (.slice none 0 0) = U := ⟨_, rfl⟩
  rw [hU] at h1 h2 hb2
  have HB := Lib.hid (bchain hb1 hb2)
  have HA1 := Lib.hid h1
  have HA2 := Lib.hid h2
  have HUs : Hid ((w.alloc (.cells #[.int .i64 t.net, .int .i64 t.tax, .int .i64 t.gross, .slice ao p cap] 34)).alloc (.cells #[.int .i64 0, .int .i64 0, .int .i64 0, .slice none 0 0] 34) = U) := Lib.hid hU
  obtain ⟨h, hh⟩ : ∃ h, w.heap.size = h := ⟨_, rfl⟩
  have HHw := Lib.hid hh
  rw [hh] at HA1 HA2
  clear hb1 hb2 h1 h2 hU
  unfold Tt.val
  go_enter Try.func9, Try.ntmps9
  go_wp2_with fail
  rw [HUs.out]
  clear HUs hh
  refine (inv_clone t.parts ao p cap _ (HL.out.below HB.out) hp).mono ?_
  rintro e w1 ⟨rfl, hB1, b1⟩
  obtain ⟨g, hgU⟩ : ∃ g, U.heap.size = g := ⟨_, rfl⟩
  rw [hgU] at hB1
  rw [hgU]
  have HGl : Hid (h + 2 ≤ g) := Lib.hid (by have := HA2.out.lt; omega)
  have HA1' := Lib.hid (HA1.out.below b1)
  have HS1 : Hid (Tt.At (w1.setCell ⟨h, 3, none⟩ (.slice (some ⟨g, 0, none⟩) p p)) h t.net t.tax t.gross (.slice (some ⟨g, 0, none⟩) p p)) := Lib.hid (HA1'.out.set3 _)
  have HS2 : Hid (Tt.At (w1.setCell ⟨h, 3, none⟩ (.slice (some ⟨g, 0, none⟩) p p)) (h + 1) 0 0 0 (.slice none 0 0)) := Lib.hid ((HA2.out.below b1).far (by omega) _ _)
  have HS3 : Hid (Pt.Block (w1.setCell ⟨h, 3, none⟩ (.slice (some ⟨g, 0, none⟩) p p)) g t.parts) := Lib.hid (hB1.far (by have := HGl.out; omega) _ _)
  have HS4 : Hid (Below w.heap.size w (w1.setCell ⟨h, 3, none⟩ (.slice (some ⟨g, 0, none⟩) p p))) := Lib.hid (bset (bchain HB.out b1) (by have := HHw.out; omega) _ _)
  obtain ⟨t0, t1, t2, t3⟩ := HA1'.out.cells
  have f3 := HA1'.out.frozen 3
  obtain ⟨V, hV⟩ : ∃ V, w1.setCell ⟨h, 3, none⟩ (.slice (some ⟨g, 0, none⟩) p p) = V := ⟨_, rfl⟩
  rw [hV] at HS1 HS2 HS3 HS4
  clear hB1 b1 hgU HA1 HA2 HA1' HB
  go_wp2_with fail
  clear t0 t1 t2 t3 f3 hV
  have hbv : Below V.heap.size V (V.alloc (.cells #[.pointer (some ⟨h, 0, none⟩), .pointer (some ⟨h, 1, none⟩), .pointer (some ⟨h, 2, none⟩)] 58)) := (Below.refl _ _).alloc (Nat.le_refl _) _
  refine (turn3 _ h V.heap.size t.net t.tax t.gross _ (HS1.out.below hbv) (heap_alloc_new V _) (Nat.ne_of_gt HS1.out.lt) HF.out.1 HF.out.2.1 HF.out.2.2).mono ?_
  rintro e w2 ⟨hU2, hcase⟩
  have HU2 : Hid (Below w.heap.size w w2 ∧ Tt.At w2 (h + 1) 0 0 0 (.slice none 0 0) ∧ Pt.Block w2 g t.parts) := Lib.hid ⟨hU2.bel _ _ (bchain HS4.out hbv) (by rw [HHw.out]; exact Nat.le_refl _), hU2.at (by omega) (HS2.out.below hbv), hU2.block (by have := HGl.out; omega) (HS3.out.below hbv)⟩
  clear hU2 hbv HS1 HS2 HS3 HS4
  rcases hcase with ⟨e1, e2, e3, rfl, hA⟩ | ⟨hbad, rfl⟩
  · have HE := Lib.hid (And.intro e1 (And.intro e2 e3))
    have HK : Hid (KSt w w2 h g p t 0) := Lib.hid ⟨HHw.out, HGl.out, HU2.out.1, hA, HU2.out.2.1, HU2.out.2.2, by simp⟩
    clear e1 e2 e3 hA HU2
    obtain ⟨t0, t1, t2, t3⟩ := HK.out.tot.cells
    go_wp2_with fail
    clear t0 t1 t2 t3
    go_loopw [5, 6, 23] (fun _ _ i wr => ∃ k : Nat, k ≤ p ∧ i = .int .i64 k ∧ Hid (KSt w wr h g p t k)) (fun _ _ i _ => p - (intOf i).toNat)
    case atStart => exact ⟨0, by omega, rfl, HK⟩
    case round =>
      clear HK
      rename World => wz
      obtain ⟨k, hk, rfl, H⟩ := hrel
      by_cases hlt : k < p
      · have hkp : k < t.parts.length := HLn.out ▸ hlt
        have hkm : k < (Iv.mixN t.parts k).length := by rw [Iv.mixN_len]; exact hkp
        have hrk := Iv.mixN_at t.parts k hkp
        have HSt := Lib.hid (Iv.mixN_set t.parts k hkp)
        have HTk := Lib.hid (List.take_succ_eq_append_getElem hkp)
        have HSh := Lib.hid (HL.out.short _ (List.getElem_mem hkp))
        have HMm : Hid (t.parts[k] ∈ t.parts) := Lib.hid (List.getElem_mem hkp)
        obtain ⟨r, hr⟩ : ∃ r, t.parts[k] = r := ⟨_, rfl⟩
        rw [hr] at hrk HSt HTk HSh HMm
        have HRk := Lib.hid hrk
        clear hr hrk
        obtain ⟨t0, t1, t2, t3⟩ := H.out.tot.cells
        have HTn : Hid (∀ X, Below wz.heap.size wz X → X.heap[wz.heap.size]? = some (.cells #[.pointer (some ⟨g, k * 4 + 2, none⟩), .pointer (some ⟨g, k * 4 + 3, none⟩)] 58 (0, 0)) → Calls Try.prog 19 #[.slice (some ⟨wz.heap.size, 0, none⟩) 2 2] X fun e w' => ∃ E : Int, e = .returned (.int .i64 E) ∧ ((E = 0 ∧ KSt w w' h g p t (k + 1)) ∨ (E = 7 ∧ Iv.badP r = true ∧ Below w.heap.size w w' ∧ Tt.At w' (h + 1) 0 0 0 (.slice none 0 0)))) := Lib.hid fun X hX ho => by
          have H1 := H.out.below hX
          have lo := H1.lo
          refine (turn2 _ g wz.heap.size k _ r hkm HRk.out H1.blk ho (Nat.ne_of_gt H.out.blk.lt) HSh.out.2.2.1 HSh.out.2.2.2).mono ?_
          rintro e w' ⟨hUp, ⟨hb, he, hB⟩ | ⟨hb, he⟩⟩
          · refine ⟨0, he, .inl ⟨rfl, H1.hw, H1.lo, hUp.bel _ _ H1.bel (by have := H1.hw; omega), hUp.at (by omega) H1.tot, hUp.at (by omega) H1.res, by rw [← HSt.out]; exact hB, ?_⟩⟩
            rw [HTk.out]
            intro x hx
            rcases List.mem_append.1 hx with hx | hx
            · exact H1.ok x hx
            · obtain rfl := List.mem_singleton.1 hx
              exact hb
          · exact ⟨7, he, .inr ⟨rfl, hb, hUp.bel _ _ H1.bel (by have := H1.hw; omega), hUp.at (by omega) H1.res⟩⟩
        clear HSt HTk HRk
        have hkp1 : k ≤ 1000 := by omega
        go_wp2_with fail
        go_cut [6] (fun e wx => ∃ E : Int, e = .int .i64 E ∧ Hid ((E = 0 ∧ KSt w wx h g p t (k + 1)) ∨ (E = 7 ∧ Iv.badP r = true ∧ Below w.heap.size w wx ∧ Tt.At wx (h + 1) 0 0 0 (.slice none 0 0))))
        case first =>
          go_region_with (go_at_call 19; refine (HTn.out _ (by first | exact (Below.refl _ _).alloc (Nat.le_refl _) _ | exact ((Below.refl _ _).alloc (Nat.le_refl _) _).drew) (by first | exact heap_alloc_new wz _)).mono ?_; rintro e u ⟨E, rfl, hcs⟩; have HCs := Lib.hid hcs; clear hcs)
          all_goals (try go_wp2_with fail)
          all_goals go_meet
          all_goals exact ⟨_, rfl, HCs⟩
        case rest =>
          clear HTn H t0 t1 t2 t3
          obtain ⟨E, rfl, HCs⟩ := hcut
          rcases HCs.out with ⟨rfl, hK⟩ | ⟨rfl, hbd⟩
          · have H := Lib.hid hK
            clear hK
            go_wp2_with fail
            go_roundw
            case rel => exact ⟨k + 1, by omega, by go_num, H⟩
            case measure => simp [intOf]; omega
          · have H := Lib.hid hbd
            clear hbd
            have HP := Lib.hid (Iv.back_part HE.out.1 HE.out.2.1 HE.out.2.2 HMm.out H.out.1)
            obtain ⟨z0, z1, z2, z3⟩ := H.out.2.2.cells
            have f0 := H.out.2.2.frozen 0
            have f1 := H.out.2.2.frozen 1
            have f2 := H.out.2.2.frozen 2
            have f3 := H.out.2.2.frozen 3
            go_wp2_with fail
            exact bodyPost_ret (v := .tuple #[Tt.val 0 0 0 (.slice none 0 0), .int .i64 7]) (by simp [results, Tt.val, Try.results9, go_sem, z0, z1, z2, z3]) rfl ⟨_, by rw [HP.out.1, HP.out.2]; rfl, by rw [HP.out.2]; exact Pt.own_nil _ _, bset (bset (bset (bset H.out.2.1 (by have := HHw.out; omega) _ _) (by have := HHw.out; omega) _ _) (by have := HHw.out; omega) _ _) (by have := HHw.out; omega) _ _⟩
      · obtain rfl : k = p := by omega
        have HTk : Hid (t.parts.take k = t.parts) := Lib.hid (List.take_of_length_le (by rw [HLn.out]; exact Nat.le_refl _))
        have HP := Lib.hid (Iv.back_ok HE.out.1 HE.out.2.1 HE.out.2.2 (fun x hx => H.out.ok x (by rw [HTk.out]; exact hx)))
        obtain ⟨t0, t1, t2, t3⟩ := H.out.tot.cells
        obtain ⟨z0, z1, z2, z3⟩ := H.out.res.cells
        have f0 := H.out.res.frozen 0
        have f1 := H.out.res.frozen 1
        have f2 := H.out.res.frozen 2
        have f3 := H.out.res.frozen 3
        have HBe := Lib.hid (And.intro H.out.bel (And.intro H.out.hw H.out.lo))
        have HBk : Hid (Pt.Block wz g (t.parts.map Iv.negP)) := Lib.hid (by
          have hb := H.out.blk
          unfold Iv.mixN at hb
          rw [HTk.out, List.drop_eq_nil_of_le (Nat.le_of_eq HLn.out.symm), List.append_nil] at hb
          exact hb)
        go_wp2_with fail
        refine bodyPost_ret (v := .tuple #[Tt.val (-t.net) (-t.tax) (-t.gross) (.slice (some ⟨g, 0, none⟩) k k), .int .i64 0]) (by simp [results, Tt.val, Try.results9, go_sem, z0, z1, z2, z3]) rfl ⟨.slice (some ⟨g, 0, none⟩) k k, by rw [HP.out.1, HP.out.2]; rfl, ?_, bset (bset (bset (bset HBe.out.1 (by have := HBe.out.2; omega) _ _) (by have := HBe.out.2; omega) _ _) (by have := HBe.out.2; omega) _ _) (by have := HBe.out.2; omega) _ _⟩
        rw [HP.out.2]
        have hlo := HBe.out.2.2
        have hb : Pt.Block _ g (t.parts.map Iv.negP) := ((((HBk.out.far (b := h + 1) (by omega) 0 (.int .i64 (-t.net))).far (b := h + 1) (by omega) 1 (.int .i64 (-t.tax))).far (b := h + 1) (by omega) 2 (.int .i64 (-t.gross))).far (b := h + 1) (by omega) 3 (.slice (some ⟨g, 0, none⟩) k k))
        have ho : Pt.Own _ w.heap.size (.slice (some ⟨g, 0, none⟩) k k) (t.parts.map Iv.negP) := Pt.own_of_block hb (by have := HBe.out.2; omega) (by rw [List.length_map]; exact HLn.out) (by omega)
        exact ho
  · have HP := Lib.hid (Iv.back_head (t := t) hbad)
    clear hbad
    obtain ⟨z0, z1, z2, z3⟩ := HU2.out.2.1.cells
    have f0 := HU2.out.2.1.frozen 0
    have f1 := HU2.out.2.1.frozen 1
    have f2 := HU2.out.2.1.frozen 2
    have f3 := HU2.out.2.1.frozen 3
    go_wp2_with fail
    exact bodyPost_ret (v := .tuple #[Tt.val 0 0 0 (.slice none 0 0), .int .i64 7]) (by simp [results, Tt.val, Try.results9, go_sem, z0, z1, z2, z3]) rfl ⟨_, by rw [HP.out.1, HP.out.2]; rfl, by rw [HP.out.2]; exact Pt.own_nil _ _, bset (bset (bset (bset HU2.out.1 (by have := HHw.out; omega) _ _) (by have := HHw.out; omega) _ _) (by have := HHw.out; omega) _ _) (by have := HHw.out; omega) _ _⟩
end Go.Proofs.Ythcaecinjmnlbab
