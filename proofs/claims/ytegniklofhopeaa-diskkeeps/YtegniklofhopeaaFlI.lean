/- slices.Insert OF ONE FILE INTO THE FILES' ROWS: at the end, in place, and in a new row. -/
import Derived.Test.YtegniklofhopeaaDkF
import Derived.Lib.Overlaps
import Derived.Lib.JoinLaws
import Derived.Lib.AppendZerosOnto
set_option maxRecDepth 100000
set_option linter.unusedVariables false
namespace Go.Proofs.Ytegniklofhopeaa.Fl
open Go.RowKit
open Mem Dk

theorem _root_.Go.Proofs.Ytegniklofhopeaa.UpdQ.grown {w u : World} {row : Option Nat} (gr : w.grownBy u row) : UpdQ (fun b => row = some b) w u :=
  ⟨gr.size, fun b hb hq => gr.block b hb fun e => hq e.symm, fun w0 a c => a.grown gr a.size fun k e => c k e⟩
theorem _root_.Go.Proofs.Ytegniklofhopeaa.UpdQ.row {Q : Nat → Prop} {g : Nat} (u : World) (hg : Q g) (vs : Array Value) : UpdQ Q u (u.setRow g vs) :=
  ⟨by simp [World.setRow], fun b _ hq => setRow_other u g b vs (fun e => hq (by rw [e]; exact hg)), fun w0 a c => below_setRow a (c g hg) vs⟩
theorem slice_from (g n c k l c' : Nat) (x : Int) (hx : x = (k : Int)) (hk : k + l = n) (hc : k + c' = c) (hl : 0 < c') (hn : n ≤ c) (h63 : c ≤ 9223372036854775807) (u : World) :
    (Instr.slice 47 (.slice (some ⟨g, 0, none⟩) n c) (some (.int .i64 x)) none none).run Try.prog u = .ok (.slice (some ⟨g, k * 3, none⟩) l c') u := by
  subst hx
  rw [run_slice_l u 47 (some ⟨g, 0, none⟩) n c und .i64 k (by omega) (by omega), size]
  have e1 : n - k = l := by omega
  have e2 : c - k = c' := by omega
  have e3 : ¬ c = k := by omega
  simp [Result.andThen, sliced, e1, e2, e3, Addr.add]
  intro h
  exact h.symm
theorem slice_to (g n c k : Nat) (x : Int) (hx : x = (k : Int)) (hk : k ≤ c) (h63 : c ≤ 9223372036854775807) (u : World) :
    (Instr.slice 47 (.slice (some ⟨g, 0, none⟩) n c) none (some (.int .i64 x)) none).run Try.prog u = .ok (.slice (some ⟨g, 0, none⟩) k c) u := by
  subst hx
  rw [run_slice_h u 47 (some ⟨g, 0, none⟩) n c und .i64 k (by omega) (by omega), size]
  simp [Result.andThen, sliced, Addr.add]
/-- a whole block of cells -/
def Raw (w : World) (g : Nat) (cs : List Value) : Prop := w.heap[g]? = some (.cells cs.toArray 67 (0, 0))
def rlaid (cs : List Value) (rs : List T) (o : Nat) : List Value := cs.take (o * 3) ++ rs.flatMap rv ++ cs.drop ((o + rs.length) * 3)
def rcells (cs : List Value) : Array Value := cs.toArray
theorem Raw.laid {u : World} {g : Nat} {cs : List Value} (h : Raw u g cs) (ds : List Value) : Raw (u.setRow g (rcells ds)) g ds := setRow_heap u g _ _ 67 _ h
theorem Raw.drew {u : World} {g : Nat} {cs : List Value} (h : Raw u g cs) : Raw u.drew g cs := h
theorem flat_take : ∀ (M : List T) (o : Nat), (M.flatMap rv).take (o * 3) = (M.take o).flatMap rv
  | [], o => by simp
  | a :: l, 0 => by simp
  | a :: l, o + 1 => by
    rw [List.flatMap_cons, List.take_succ_cons, List.flatMap_cons, show (o + 1) * 3 = (rv a).length + o * 3 by rw [rv_len]; omega, List.take_length_add_append, flat_take l o]
/-- copy(dst[o:], src): as many rows as both have -/
theorem copy_raw (u : World) (g : Nat) (cs : List Value) (o dl dc b so sl sc : Nat) (rs : List T) (hb : Raw u g cs) (hk : rs.length = Nat.min sl dl) (ho : (o + rs.length) * 3 ≤ cs.length) (hs : ∀ (k : Nat) (hk : k < rs.length), At u b (so + k * 3) rs[k]) (ty : TypeId) :
    (Builtin.copy_ #[47, 47] ty #[.slice (some ⟨g, o * 3, none⟩) dl dc, .slice (some ⟨b, so, none⟩) sl sc]).run Try.prog u = .ok (goInt rs.length) (u.setRow g (rcells (rlaid cs rs o))) := by
  obtain ⟨i0, hi, hiK⟩ := Option.map_eq_some_iff.1 sizeZ
  have hl := run_loadCells_list (P := Try.prog) u ⟨b, so, none⟩ (rs.flatMap rv) (fun j v hv => news_of hs j v hv)
  have hst := run_storeCells_at Try.prog g (o * 3) 67 (rs.flatMap rv) 0 _ u hb (by rw [List.size_toArray, flat_len]; omega) (one_cell rs)
  have hlen : (rs.flatMap rv).length = rs.length * 3 := flat_len rs
  have e : (cs.toArray.toList.take (o * 3 + 0) ++ rs.flatMap rv ++ cs.toArray.toList.drop (o * 3 + 0 + (rs.flatMap rv).length)) = rlaid cs rs o := by
    rw [List.toList_toArray, Nat.add_zero, hlen, show o * 3 + rs.length * 3 = (o + rs.length) * 3 by omega]
    rfl
  rw [e] at hst
  rw [hlen] at hl
  unfold rcells
  simp [Builtin.copy_, run_underlying Try.underlying47, Builtin.lenOf, Builtin.firstCells, sizeOf, typeInfo, hi, hiK, ← hk, hl, hst]
theorem own_raw {w : World} {B g n cap : Nat} {M : List T} (h : Own w B (.slice (some ⟨g, 0, none⟩) n cap) M) : ∃ cs, Raw w g cs ∧ cs.length = cap * 3 ∧ cs.take (n * 3) = M.flatMap rv ∧ n = M.length ∧ n ≤ cap ∧ cap ≤ 9223372036854775807 ∧ B ≤ g := by
  rcases h.2 with ⟨h', _⟩ | ⟨g', cap', cur, h', hb, hg, hnc, hcm, hcs, htake⟩
  · cases h'
  · simp only [Value.slice.injEq, Option.some.injEq, Addr.mk.injEq, and_true] at h'
    obtain ⟨e1, e2, e3⟩ := h'
    subst e1 e3
    refine ⟨cur.toList, ?_, by rw [Array.length_toList, hcs], by rw [e2]; exact htake, e2, by rw [e2]; exact hnc, hcm, hb⟩
    unfold Raw
    rw [Array.toArray_toList]
    exact hg
theorem raw_own {w : World} {B g n cap : Nat} {M : List T} {cs : List Value} (h : Raw w g cs) (hl : cs.length = cap * 3) (ht : cs.take (n * 3) = M.flatMap rv) (hn : n = M.length) (hc : n ≤ cap) (hm : cap ≤ 9223372036854775807) (hB : B ≤ g) : Own w B (.slice (some ⟨g, 0, none⟩) n cap) M := by
  subst hn
  exact ⟨by rw [flat_len], .inr ⟨g, cap, cs.toArray, rfl, hB, h, hc, by have : maxLen = 9223372036854775807 := rfl; omega, by rw [List.size_toArray, hl], by rw [List.toList_toArray]; exact ht⟩⟩
theorem flat_app (M N : List T) : (M ++ N).flatMap rv = M.flatMap rv ++ N.flatMap rv := List.flatMap_append
theorem laid_one {cs : List Value} {M : List T} {n i : Nat} (hn : n = M.length) (ht : cs.take (n * 3) = M.flatMap rv) (hi : i < n) (hl : (n + 1) * 3 ≤ cs.length) :
    rlaid cs (M.drop i) (i + 1) = (M.take (i + 1)).flatMap rv ++ (M.drop i).flatMap rv ++ cs.drop ((n + 1) * 3) := by
  unfold rlaid
  have e1 : cs.take ((i + 1) * 3) = (M.take (i + 1)).flatMap rv := by
    rw [← flat_take, ← ht, List.take_take, Nat.min_eq_left (by omega)]
  have e2 : i + 1 + (M.drop i).length = n + 1 := by rw [List.length_drop]; omega
  rw [e1, e2]
theorem laid_two {X : List Value} {M : List T} {r : T} {n i : Nat} (hn : n = M.length) (hi : i < n) :
    rlaid ((M.take (i + 1)).flatMap rv ++ (M.drop i).flatMap rv ++ X) [r] i = (M.take i ++ r :: M.drop i).flatMap rv ++ X := by
  unfold rlaid
  have h1 : ((M.take (i + 1)).flatMap rv).length = (i + 1) * 3 := by rw [flat_len, List.length_take, Nat.min_eq_left (by omega)]
  have e1 : ((M.take (i + 1)).flatMap rv ++ (M.drop i).flatMap rv ++ X).take (i * 3) = (M.take i).flatMap rv := by
    rw [List.append_assoc, List.take_append_of_le_length (by rw [h1]; omega), flat_take, List.take_take, Nat.min_eq_left (by omega)]
  have e2 : ((M.take (i + 1)).flatMap rv ++ (M.drop i).flatMap rv ++ X).drop ((i + [r].length) * 3) = (M.drop i).flatMap rv ++ X := by
    rw [List.append_assoc, List.drop_left' (by rw [h1]; rfl)]
  rw [e1, e2, flat_app, List.flatMap_cons, List.flatMap_cons, List.flatMap_nil, List.append_nil]
  simp only [List.append_assoc]
theorem size3 (u : World) : (sizeOf 67).run Try.prog u = .ok 3 u := by
  obtain ⟨i, hi, hs⟩ := Option.map_eq_some_iff.1 sizeZ
  simp [sizeOf, typeInfo, hi, hs]
theorem Raw.shape {u : World} {g : Nat} {cs : List Value} (h : Raw u g cs) : u.shape? g = some (67, cs.length) := by
  unfold World.shape?
  rw [h]
  simp only [List.size_toArray]
/-- what Insert answers -/
def InsE (w : World) (v : Value) (M : List T) (i : Nat) (r : T) (e : Ending) (w' : World) : Prop := ∃ v', e = .returned v' ∧ Own w' 0 v' (M.take i ++ r :: M.drop i) ∧ (v'.ownBlock = v.ownBlock ∨ ∃ g, v'.ownBlock = some g ∧ w.heap.size ≤ g) ∧ UpdQ (fun b => v.ownBlock = some b) w w'
set_option maxHeartbeats 4000000 in
theorem insert_end (w : World) (ao : Option Addr) (n cap vb : Nat) (M : List T) (r : T) (h : Own w 0 (.slice ao n cap) M) (hs : ∀ x ∈ M, Short x) (hm : n ≤ 1000) (hv : w.heap[vb]? = some (block r)) :
    Calls Try.prog 51 #[.slice ao n cap, .int .i64 (n : Int), .slice (some ⟨vb, 0, none⟩) 1 1] w (InsE w (.slice ao n cap) M n r) := by
  obtain ⟨ao', cap', e, l, _⟩ := own_ls h hs
  simp only [Value.slice.injEq] at e
  obtain ⟨rfl, hn, rfl⟩ := e
  have hcap := l.reach
  have hfit := l.fits
  rw [← hn] at l hfit
  obtain ⟨ao2, cap2, hsl, _⟩ := l.from n (Nat.le_refl _)
  have HO := Lib.hid h
  have HV := Lib.hid hv
  have HN := Lib.hid hn
  clear h hs hv l hn
  have hnn : ((n : Int) == (n : Int)) = true := beq_self_eq_true _
  go_enter Try.func51, Try.ntmps51
  go_wp2_with (at_builtin; go_must (refine wpList_append w rfl (.tmp 23) (.tmp 24) rfl 0 (.slice ao n cap) M rfl HO.out (some ⟨vb, 0, none⟩) 1 1 [r] rfl rfl (fun z => by cases z) (seg_block HV.out) (by have := HN.out; omega) (Nat.zero_le _) ?_))
  intro v' w1 o1 gr1 at1
  have HI : Hid (InsE w (.slice ao n cap) M n r (.returned v') w1) := Lib.hid ⟨v', rfl, by rw [List.take_of_length_le (by have := HN.out; omega), List.drop_eq_nil_of_le (by have := HN.out; omega)]; exact o1, at1.imp id fun z => ⟨_, z, Nat.le_refl _⟩, UpdQ.grown gr1⟩
  clear o1 gr1 at1
  go_wp2_with fail
  go_ret
  exact HI.out
set_option maxHeartbeats 4000000 in
theorem insert_mid (w : World) (g n cap vb i : Nat) (M : List T) (r : T) (h : Own w 0 (.slice (some ⟨g, 0, none⟩) n cap) M) (hv : w.heap[vb]? = some (block r)) (hne : vb ≠ g) (hi : i < n) (hroom : n + 1 ≤ cap) (hm : n ≤ 1000) :
    Calls Try.prog 51 #[.slice (some ⟨g, 0, none⟩) n cap, .int .i64 (i : Int), .slice (some ⟨vb, 0, none⟩) 1 1] w (InsE w (.slice (some ⟨g, 0, none⟩) n cap) M i r) := by
  obtain ⟨cs, hR, hl, ht, hn, hnc, hcm, _⟩ := own_raw h
  have hs1 := slice_from g n cap i (n - i) (cap - i) (i : Int) rfl (by omega) (by omega) (by omega) (by omega) hcm
  have hs2 := slice_to g n cap (n + 1) ((n : Int) + 1) (by omega) (by omega) hcm
  have hs3 := slice_from g (n + 1) cap (i + 1) (n - i) (cap - (i + 1)) ((i : Int) + 1) (by omega) (by omega) (by omega) (by omega) (by omega) hcm
  have hs4 := slice_from g (n + 1) cap i (n + 1 - i) (cap - i) (i : Int) rfl (by omega) (by omega) (by omega) (by omega) hcm
  have hov : ∀ lb cb, (callFunc 55 #[.slice (some ⟨vb, 0, none⟩) 1 1, .slice (some ⟨g, (i + 1) * 3, none⟩) lb cb]).run Try.prog w = .ok (.value (.bool false)) w := fun lb cb => by
    rw [run_callFunc_extern Try.func55 (by kernel_rfl) (by kernel_rfl) (by kernel_rfl) (e := Extern.SlicesOverlaps.overlaps #[47, 47] #[4]) (by kernel_rfl),
      Lib.run_overlaps_apart w 47 4 67 Try.underlying47 3 size3 ⟨vb, 0, none⟩ ⟨g, (i + 1) * 3, none⟩ 1 1 lb cb hne 67 67 3 cs.length (by unfold World.shape?; rw [hv]; rfl) hR.shape (by rw [hl]; omega) (frozen_of_row w vb 0 _ _ hv) (frozen_of_row w vb 3 _ _ hv)]
    rfl
  have hd : (M.drop i).length = n - i := by rw [List.length_drop, hn]
  have hl1 : (n + 1) * 3 ≤ cs.length := by omega
  obtain ⟨W1, hW1⟩ : ∃ W1, w.drew.setRow g (rcells ((M.take (i + 1)).flatMap rv ++ (M.drop i).flatMap rv ++ cs.drop ((n + 1) * 3))) = W1 := ⟨_, rfl⟩
  have hB1 : Raw W1 g ((M.take (i + 1)).flatMap rv ++ (M.drop i).flatMap rv ++ cs.drop ((n + 1) * 3)) := hW1 ▸ hR.drew.laid _
  have hcp1 : ∀ ty dc sc, (Builtin.copy_ #[47, 47] ty #[.slice (some ⟨g, (i + 1) * 3, none⟩) (n - i) dc, .slice (some ⟨g, i * 3, none⟩) (n + 1 - i) sc]).run Try.prog w.drew = .ok (goInt (n - i : Nat)) W1 := fun ty dc sc => by
    have hcp := copy_raw w.drew g cs (i + 1) (n - i) dc g (i * 3) (n + 1 - i) sc (M.drop i) hR.drew (by rw [hd]; simp only [Nat.min_def]; split <;> omega) (by rw [hd]; omega) (fun k hk => by
      have hr := (own_at (own_drew h) (i + k) (by omega)).1
      rw [List.getElem_drop, show i * 3 + k * 3 = (i + k) * 3 by omega]
      exact hr) ty
    rw [laid_one hn ht hi hl1, hW1, hd] at hcp
    exact hcp
  have hvW : W1.heap[vb]? = some (block r) := by
    rw [← hW1, setRow_other w.drew g vb _ hne]
    exact hv
  obtain ⟨W2, hW2⟩ : ∃ W2, W1.setRow g (rcells ((M.take i ++ r :: M.drop i).flatMap rv ++ cs.drop ((n + 1) * 3))) = W2 := ⟨_, rfl⟩
  have hlen1 : ((M.take (i + 1)).flatMap rv ++ (M.drop i).flatMap rv ++ cs.drop ((n + 1) * 3)).length = cap * 3 := by
    rw [List.length_append, List.length_append, flat_len, flat_len, List.length_take, hd, List.length_drop, hl, Nat.min_eq_left (by omega)]
    omega
  have hcp2 : ∀ ty dc, (Builtin.copy_ #[47, 47] ty #[.slice (some ⟨g, i * 3, none⟩) (n + 1 - i) dc, .slice (some ⟨vb, 0, none⟩) 1 1]).run Try.prog W1 = .ok (goInt 1) W2 := fun ty dc => by
    have hsg := seg_block hvW
    have hcp := copy_raw W1 g _ i (n + 1 - i) dc vb 0 1 1 [r] hB1 (by simp only [Nat.min_def, List.length_singleton]; split <;> omega) (by rw [hlen1]; simp only [List.length_singleton]; omega) (by
      rcases hsg with e | ⟨b, off, e, hat⟩
      · cases e
      · cases e
        exact hat) ty
    rw [laid_two hn hi, hW2] at hcp
    exact hcp
  have hlen2 : ((M.take i ++ r :: M.drop i).flatMap rv).length = (n + 1) * 3 := by
    rw [flat_len, List.length_append, List.length_cons, List.length_take, hd, Nat.min_eq_left (by omega)]
    omega
  have HI : Hid (InsE w (.slice (some ⟨g, 0, none⟩) n cap) M i r (.returned (.slice (some ⟨g, 0, none⟩) (n + 1) cap)) W2) := Lib.hid (by
    refine ⟨_, rfl, raw_own (cs := (M.take i ++ r :: M.drop i).flatMap rv ++ cs.drop ((n + 1) * 3)) ?_ ?_ ?_ ?_ hroom hcm (Nat.zero_le _), .inl rfl, ?_⟩
    · rw [← hW2]
      exact hB1.laid _
    · rw [List.length_append, hlen2, List.length_drop, hl]
      omega
    · rw [List.take_left' hlen2]
    · rw [List.length_append, List.length_cons, List.length_take, hd, Nat.min_eq_left (by omega)]
      omega
    · rw [← hW2, ← hW1]
      exact ((UpdQ.of (Below.refl _ _).drew).trans (UpdQ.row (Q := fun b => (Value.slice (some ⟨g, 0, none⟩) n cap).ownBlock = some b) w.drew rfl _)).trans (UpdQ.row (Q := fun b => (Value.slice (some ⟨g, 0, none⟩) n cap).ownBlock = some b) _ rfl _))
  have hin' : ((i : Int) == (n : Int)) = false := beq_eq_false_iff_ne.2 (by omega)
  have hcn : (n : Int) + 1 ≤ (cap : Int) := by omega
  have hi1 : (i : Int) + 1 ≤ (n : Int) := by omega
  clear h hv hR hl ht hn hW1 hW2 hB1 hd hvW hne hl1 hlen1 hlen2
  go_enter Try.func51, Try.ntmps51
  go_wp2_with (simp only [hov])
  go_region
  go_wp2_with fail
  go_ret
  exact HI.out
end Go.Proofs.Ytegniklofhopeaa.Fl
