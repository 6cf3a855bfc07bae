/- slices.Insert OF ONE FILE INTO THE FILES' ROWS WHERE THERE IS NO ROOM: a new row; any insertion. -/
import Derived.Test.YtegniklofhopeaaFlI
set_option maxRecDepth 100000
set_option linter.unusedVariables false
namespace Go.Proofs.Ytegniklofhopeaa.Fl
open Go.RowKit
open Mem Dk

theorem zero_cells (n : Nat) : (Builtin.zeroCells zeroV.cells n).toList = (List.replicate n zero).flatMap rv := by
  have h := congrArg Array.toList (made n)
  unfold zeros at h
  rw [List.toList_toArray] at h
  exact h
theorem grow_row (M : List T) (i a b : Nat) : ((M.take i).flatMap rv).toArray ++ Builtin.zeroCells zeroV.cells a ++ Builtin.zeroCells zeroV.cells b = ((M.take i).flatMap rv ++ (List.replicate (a + b) zero).flatMap rv).toArray := by
  apply Array.toList_inj.1
  rw [Array.toList_append, Array.toList_append, zero_cells, zero_cells, List.toList_toArray, List.toList_toArray, List.append_assoc, ← flat_app, List.replicate_append_replicate]
theorem grow_one {M : List T} {r : T} {n i k : Nat} (hn : n = M.length) (hi : i < n) : rlaid ((M.take i).flatMap rv ++ (List.replicate (k + 1) zero).flatMap rv) [r] i = (M.take i).flatMap rv ++ rv r ++ (List.replicate k zero).flatMap rv := by
  unfold rlaid
  have h1 : ((M.take i).flatMap rv).length = i * 3 := by rw [flat_len, List.length_take, Nat.min_eq_left (by omega)]
  have e1 : ((M.take i).flatMap rv ++ (List.replicate (k + 1) zero).flatMap rv).take (i * 3) = (M.take i).flatMap rv := List.take_left' h1
  have e2 : ((M.take i).flatMap rv ++ (List.replicate (k + 1) zero).flatMap rv).drop ((i + [r].length) * 3) = (List.replicate k zero).flatMap rv := by
    rw [List.replicate_succ, List.flatMap_cons, ← List.append_assoc, List.drop_left' (by rw [List.length_append, h1, rv_len, List.length_singleton]; omega)]
  rw [e1, e2, List.flatMap_cons, List.flatMap_nil, List.append_nil]
theorem grow_two {M : List T} {r : T} {n i k : Nat} (hn : n = M.length) (hi : i < n) : rlaid ((M.take i).flatMap rv ++ rv r ++ (List.replicate ((n - i) + k) zero).flatMap rv) (M.drop i) (i + 1) = (M.take i ++ r :: M.drop i).flatMap rv ++ (List.replicate k zero).flatMap rv := by
  unfold rlaid
  have h1 : ((M.take i).flatMap rv ++ rv r).length = (i + 1) * 3 := by rw [List.length_append, flat_len, List.length_take, rv_len, Nat.min_eq_left (by omega)]; omega
  have h2 : (M.drop i).length = n - i := by rw [List.length_drop, hn]
  have e1 : ((M.take i).flatMap rv ++ rv r ++ (List.replicate ((n - i) + k) zero).flatMap rv).take ((i + 1) * 3) = (M.take i).flatMap rv ++ rv r := List.take_left' h1
  have e2 : ((M.take i).flatMap rv ++ rv r ++ (List.replicate ((n - i) + k) zero).flatMap rv).drop ((i + 1 + (M.drop i).length) * 3) = (List.replicate k zero).flatMap rv := by
    rw [← List.replicate_append_replicate, flat_app, ← List.append_assoc, List.drop_left' (by rw [List.length_append, h1, flat_len, List.length_replicate, h2]; omega)]
  rw [e1, e2, flat_app, List.flatMap_cons]
  simp only [List.append_assoc]
set_option maxHeartbeats 4000000 in
theorem insert_grow (w : World) (g n cap vb i : Nat) (M : List T) (r : T) (h : Own w 0 (.slice (some ⟨g, 0, none⟩) n cap) M) (hv : w.heap[vb]? = some (block r)) (hi : i < n) (hroom : cap < n + 1) (hm : n ≤ 1000) :
    Calls Try.prog 51 #[.slice (some ⟨g, 0, none⟩) n cap, .int .i64 (i : Int), .slice (some ⟨vb, 0, none⟩) 1 1] w (InsE w (.slice (some ⟨g, 0, none⟩) n cap) M i r) := by
  obtain ⟨cs, hR, hl, ht, hn, hnc, hcm, _⟩ := own_raw h
  have hgl : g < w.heap.size := (Array.getElem?_eq_some_iff.1 hR).1
  have hvl : vb < w.heap.size := (Array.getElem?_eq_some_iff.1 hv).1
  obtain ⟨i0, hi0, hz0, hz1, hz2⟩ := info_parts info
  obtain ⟨G, hG⟩ : ∃ G, grownCap w (n + 1) cap 67 = G := ⟨_, rfl⟩
  have hGn : n + 1 ≤ G := hG ▸ grownCap_ge w _ _ _
  have hG63 : G ≤ 9223372036854775807 := by
    have := grownCap_le_maxLen w (n + 1) cap 67 (by unfold maxLen; omega)
    rw [hG] at this
    unfold maxLen at this
    omega
  obtain ⟨W1, hW1⟩ : ∃ W1, w.drew.alloc (.cells ((M.take i).flatMap rv ++ (List.replicate ((n + 1 - i) + (G - (n + 1))) zero).flatMap rv).toArray 67) = W1 := ⟨_, rfl⟩
  have hold : (Builtin.firstCells i0.size i (.slice (some ⟨g, 0, none⟩) i cap)).run Try.prog w.drew = .ok ((M.take i).flatMap rv).toArray w.drew := by
    rw [hz1]
    refine run_firstCells_some w.drew 3 i ⟨g, 0, none⟩ i cap _ (by rw [flat_len, List.length_take, Nat.min_eq_left (by omega)]) (fun j v hj => ?_)
    have hrow : ∀ (k : Nat) (hk : k < (M.take i).length), At w.drew g (0 + k * 3) (M.take i)[k] := fun k hk => by
      rw [List.length_take] at hk
      have := (own_at (own_drew h) k (by omega)).1
      rw [List.getElem_take, Nat.zero_add]
      exact this
    exact news_of hrow j v hj
  have hik : i + (n + 1 - i) = n + 1 := by omega
  have hrz : ∀ ty, (Builtin.append_ #[47, 3] ty #[.slice (some ⟨g, 0, none⟩) i cap, .int .i64 ((n : Int) + 1 - (i : Int))]).run Try.prog w = .ok (.slice (some ⟨w.heap.size, 0, none⟩) (n + 1) G) W1 := fun ty => by
    have hk := Lib.run_append_grow_zeros w 47 3 ty 67 i0 _ .i64 .i64 Try.underlying47 Try.underlying3 hi0 hz0 (some ⟨g, 0, none⟩) i cap _ hold (n + 1 - i) (by omega) (by rw [hz1]; omega) (by omega) (by omega) (by rw [hz2]; omega) (by rw [hz2, hik]; exact growslice_fits hroom (by omega))
    rw [hik, hG, grow_row, hW1] at hk
    rw [show (n : Int) + 1 - (i : Int) = ((n + 1 - i : Nat) : Int) by omega]
    exact hk
  have hs0 := slice_to g n cap i (i : Int) rfl (by omega) hcm
  have hs1 := slice_from g n cap i (n - i) (cap - i) (i : Int) rfl (by omega) (by omega) (by omega) (by omega) hcm
  have hs2 := slice_from w.heap.size (n + 1) G i (n + 1 - i) (G - i) (i : Int) rfl (by omega) (by omega) (by omega) (by omega) hG63
  have hs3 := slice_from w.heap.size (n + 1) G (i + 1) (n - i) (G - (i + 1)) ((i : Int) + 1) (by omega) (by omega) (by omega) (by omega) (by omega) hG63
  have hR1 : Raw W1 w.heap.size ((M.take i).flatMap rv ++ (List.replicate ((G - i - 1) + 1) zero).flatMap rv) := by
    rw [← hW1, show (G - i - 1) + 1 = (n + 1 - i) + (G - (n + 1)) by omega]
    exact heap_alloc_new w.drew _
  have hb1 : Below w.heap.size w W1 := by
    rw [← hW1]
    exact (Below.refl _ _).drew.alloc (Nat.le_refl _) _
  have hd : (M.drop i).length = n - i := by rw [List.length_drop, hn]
  have hlen1 : ((M.take i).flatMap rv ++ (List.replicate ((G - i - 1) + 1) zero).flatMap rv).length = G * 3 := by
    rw [List.length_append, flat_len, flat_len, List.length_take, List.length_replicate, Nat.min_eq_left (by omega)]
    omega
  obtain ⟨W2, hW2⟩ : ∃ W2, W1.setRow w.heap.size (rcells ((M.take i).flatMap rv ++ rv r ++ (List.replicate (G - i - 1) zero).flatMap rv)) = W2 := ⟨_, rfl⟩
  have hcp1 : ∀ ty dc, (Builtin.copy_ #[47, 47] ty #[.slice (some ⟨w.heap.size, i * 3, none⟩) (n + 1 - i) dc, .slice (some ⟨vb, 0, none⟩) 1 1]).run Try.prog W1 = .ok (goInt 1) W2 := fun ty dc => by
    have hsg := seg_block ((hb1.block vb hvl).trans hv)
    have hcp := copy_raw W1 w.heap.size _ i (n + 1 - i) dc vb 0 1 1 [r] hR1 (by simp only [Nat.min_def, List.length_singleton]; split <;> omega) (by rw [hlen1]; simp only [List.length_singleton]; omega) (by
      rcases hsg with e | ⟨b, off, e, hat⟩
      · cases e
      · cases e
        exact hat) ty
    rw [grow_one hn hi, hW2] at hcp
    exact hcp
  have hR2 : Raw W2 w.heap.size ((M.take i).flatMap rv ++ rv r ++ (List.replicate ((n - i) + (G - (n + 1))) zero).flatMap rv) := by
    rw [← hW2, show (n - i) + (G - (n + 1)) = G - i - 1 by omega]
    exact hR1.laid _
  have hlen2 : ((M.take i).flatMap rv ++ rv r ++ (List.replicate ((n - i) + (G - (n + 1))) zero).flatMap rv).length = G * 3 := by
    rw [List.length_append, List.length_append, flat_len, flat_len, List.length_take, List.length_replicate, rv_len, Nat.min_eq_left (by omega)]
    omega
  have hb2 : Below w.heap.size w W2 := by
    rw [← hW2]
    exact below_setRow hb1 (Nat.le_refl _) _
  obtain ⟨W3, hW3⟩ : ∃ W3, W2.drew.setRow w.heap.size (rcells ((M.take i ++ r :: M.drop i).flatMap rv ++ (List.replicate (G - (n + 1)) zero).flatMap rv)) = W3 := ⟨_, rfl⟩
  have hcp2 : ∀ ty dc sc, (Builtin.copy_ #[47, 47] ty #[.slice (some ⟨w.heap.size, (i + 1) * 3, none⟩) (n - i) dc, .slice (some ⟨g, i * 3, none⟩) (n - i) sc]).run Try.prog W2.drew = .ok (goInt (n - i : Nat)) W3 := fun ty dc sc => by
    have hO2 := own_drew (own_below h hb2)
    have hcp := copy_raw W2.drew w.heap.size _ (i + 1) (n - i) dc g (i * 3) (n - i) sc (M.drop i) hR2.drew (by rw [hd]; simp only [Nat.min_def]; split <;> omega) (by rw [hd, hlen2]; omega) (fun k hk => by
      have hr := (own_at hO2 (i + k) (by omega)).1
      rw [List.getElem_drop, show i * 3 + k * 3 = (i + k) * 3 by omega]
      exact hr) ty
    rw [grow_two hn hi, hW3, hd] at hcp
    exact hcp
  have hlen3 : ((M.take i ++ r :: M.drop i).flatMap rv).length = (n + 1) * 3 := by
    rw [flat_len, List.length_append, List.length_cons, List.length_take, hd, Nat.min_eq_left (by omega)]
    omega
  have HI : Hid (InsE w (.slice (some ⟨g, 0, none⟩) n cap) M i r (.returned (.slice (some ⟨w.heap.size, 0, none⟩) (n + 1) G)) W3) := Lib.hid (by
    refine ⟨_, rfl, raw_own (cs := (M.take i ++ r :: M.drop i).flatMap rv ++ (List.replicate (G - (n + 1)) zero).flatMap rv) ?_ ?_ ?_ ?_ hGn hG63 (Nat.zero_le _), .inr ⟨_, rfl, Nat.le_refl _⟩, UpdQ.of ?_⟩
    · rw [← hW3]
      exact hR2.drew.laid _
    · rw [List.length_append, hlen3, flat_len, List.length_replicate]
      omega
    · rw [List.take_left' hlen3]
    · rw [List.length_append, List.length_cons, List.length_take, hd, Nat.min_eq_left (by omega)]
      omega
    · rw [← hW3]
      exact below_setRow hb2.drew (Nat.le_refl _) _)
  have hin' : ((i : Int) == (n : Int)) = false := beq_eq_false_iff_ne.2 (by omega)
  have hcn : (cap : Int) < (n : Int) + 1 := by omega
  have hi1 : (i : Int) + 1 ≤ (n : Int) := by omega
  have hw1 : IntKind.i64.wrap ((i : Int) + 1) = (i : Int) + 1 := by rw [IntKind.wrap_i64]; omega
  clear h hv hR hl ht hn hW1 hW2 hW3 hR1 hR2 hb1 hb2 hd hlen1 hlen2 hlen3 hold hG hi0 hz0 hz1 hz2 hgl hvl
  go_enter Try.func51, Try.ntmps51
  go_wp2_with (at_builtin; refine Lib.wpList_append_run _ rfl _ _ _ _ rfl _ _ rfl rfl _ _ (hrz _) ?_)
  go_region
  go_wp2_with fail
  go_ret
  exact HI.out
/-- slices.Insert of one file -/
theorem insert_any (w : World) (ao : Option Addr) (n cap vb i : Nat) (M : List T) (r : T) (h : Own w 0 (.slice ao n cap) M) (hs : ∀ x ∈ M, Short x) (hv : w.heap[vb]? = some (block r)) (hne : ∀ b, (Value.slice ao n cap).ownBlock = some b → vb ≠ b) (hi : i ≤ n) (hm : n ≤ 1000) :
    Calls Try.prog 51 #[.slice ao n cap, .int .i64 (i : Int), .slice (some ⟨vb, 0, none⟩) 1 1] w (InsE w (.slice ao n cap) M i r) := by
  by_cases e : i = n
  · subst e
    exact insert_end w ao i cap vb M r h hs hm hv
  · rcases h.2 with ⟨h1, h2⟩ | ⟨g, cap', cur, h1, _⟩
    · simp only [Value.slice.injEq] at h1
      omega
    · simp only [Value.slice.injEq] at h1
      obtain ⟨rfl, _, rfl⟩ := h1
      by_cases hr : n + 1 ≤ cap
      · exact insert_mid w g n cap vb i M r h hv (hne g rfl) (by omega) hr hm
      · exact insert_grow w g n cap vb i M r h hv (by omega) (by omega) hm
end Go.Proofs.Ytegniklofhopeaa.Fl
