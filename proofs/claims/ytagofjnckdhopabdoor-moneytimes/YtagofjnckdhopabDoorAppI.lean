/- append(own, numbers...): A LAW FOR THE WALK; A SLICE OF NUMBERS THAT CAME IN. -/
import Derived.Test.YtagofjnckdhopabDoorSums
namespace Go.Proofs.YtagofjnckdhopabDoor
open Go.ChangeShapes Go.WideShapes Go.ChangeAt Go.RowKit

theorem infoI : (Tryd.prog.info? 3).map (fun i => (i.zero, i.size, i.bytes)) = some (some (.int .i64 0), 1, 8) := by kernel_rfl
theorem one_iv (zs : List Int) : ∀ v ∈ zs.map iv, v.oneCell' = true := by
  intro v hv
  obtain ⟨b, _, rfl⟩ := List.mem_map.1 hv
  rfl
theorem owns_seg {w : World} {base n : Nat} {v : Value} {zs : List Int} (h : w.ownsRow base 3 1 v n (zs.map iv)) : ∃ ao cp, v = .slice ao n cp ∧ n = zs.length ∧ SegI w ao zs ∧ (ao = none → cp = 0) := by
  have hl : n = zs.length := by have := h.1; simpa using this.symm
  rcases h.2 with ⟨h', h2⟩ | ⟨g, cap, cur, h', _, hg, hnc, _, hcs, htake⟩
  · refine ⟨none, 0, ?_, hl, .inl ?_, fun _ => rfl⟩
    · rw [h', h2]
    · exact List.length_eq_zero_iff.1 (by omega)
  · refine ⟨some ⟨g, 0, none⟩, cap, h', hl, .inr ⟨g, 0, rfl, fun k hk => ?_⟩, fun h => by cases h⟩
    rw [Nat.zero_add, cell_of_row w g k _ _ _ hg]
    have h1 := congrArg (·[k]?) htake
    simp only [List.getElem?_take, List.getElem?_map] at h1
    rw [if_pos (by omega), List.getElem?_eq_getElem hk] at h1
    simpa [iv] using h1
theorem wpList_append_ints {ops : Array Oper} {rest : List Oper} {o : Oper} {a : Act} {Q : Exit → Act → World → Prop} (w : World) (hgd : o.guard = none) (s x : Operand)
    (ho : o.op = .call { callee := .builtin .append, args := #[s, x], argTypes := #[23, 23] })
    (base m : Nat) (v : Value) (xs : List Int) (hs : a.eval s = v) (hown : w.ownsRow base 3 1 v m (xs.map iv))
    (ao : Option Addr) (n cap : Nat) (zs : List Int) (hx : a.eval x = .slice ao n cap) (hn : n = zs.length) (hnil : ao = none → cap = 0) (hsrc : SegI w ao zs) (hl : (m + n) * 8 ≤ 140737488355328) (hb : base ≤ w.heap.size)
    (h : ∀ v' w1, w1.ownsRow base 3 1 v' (m + n) ((xs ++ zs).map iv) → w.grownBy w1 v.ownBlock → wpList Tryd.prog ops Q rest (a.put o.dst v') w1) :
    wpList Tryd.prog ops Q (o :: rest) a w := by
  obtain ⟨i0, hi, hz0, hz1, hz2⟩ := info_parts infoI
  have hmx : maxLen = 9223372036854775807 := rfl
  cases ao with
  | none =>
    obtain rfl : cap = 0 := hnil rfl
    rcases hsrc with rfl | ⟨b, off, e, _⟩
    · obtain rfl : n = 0 := hn
      refine wpList_append_own_none hgd s x 23 ho base 3 i0 1 Tryd.underlying23 hi _ m (xs.map iv) hs hown hx ?_
      exact h v w (by simpa using hown) ⟨rfl, rfl, rfl, Nat.le_refl _, fun _ _ _ => rfl⟩
    · cases e
  | some ad =>
    refine wpList_append_own_at w hgd s x 23 ho base 3 i0 (.int .i64 0) 1 8 Tryd.underlying23 hi hz0 hz1 hz2 rfl (by omega) _ m (xs.map iv) hs hown ad n cap (zs.map iv) hx (by simp; omega) ?_ (one_iv zs) (by omega) hl hb ?_
    · intro j u hu
      rcases hsrc with rfl | ⟨b, off, e, hc⟩
      · simp at hu
      · cases e
        obtain ⟨hj, rfl⟩ := List.getElem?_eq_some_iff.1 hu
        simp only [List.length_map] at hj
        have h1 := hc j hj
        by_cases hj0 : j = 0
        · subst hj0
          simp only [Nat.add_zero] at h1
          simp [Addr.add, iv, h1]
        · simp [Addr.add, iv, hj0, h1]
    · intro v' w' hown' hgrow _ _
      rw [← List.map_append] at hown'
      exact h v' w' hown' hgrow
theorem own_lit (u : World) (cs : List Int) (B : Nat) (hB : B ≤ u.heap.size) (hl : cs.length ≤ 1000) : (u.alloc (.cells (cs.map iv).toArray 3)).ownsRow B 3 1 (.slice (some ⟨u.heap.size, 0, none⟩) cs.length cs.length) cs.length (cs.map iv) :=
  ⟨by simp, .inr ⟨u.heap.size, cs.length, (cs.map iv).toArray, rfl, hB, heap_alloc_new u _, Nat.le_refl _, by unfold maxLen; omega, by simp, by rw [Nat.mul_one, List.toList_toArray, List.take_of_length_le (by simp)]⟩⟩
theorem seg_lit_ints (u : World) (zs : List Int) : SegI (u.alloc (.cells (zs.map iv).toArray 3)) (some ⟨u.heap.size, 0, none⟩) zs :=
  .inr ⟨u.heap.size, 0, rfl, fun k hk => by
    rw [Nat.zero_add, cell_of_row _ _ _ _ _ _ (heap_alloc_new u _)]
    simp [hk, iv]⟩

/-! ### a slice of numbers that came in -/
theorem cellsOfI : Tryd.prog.cellsOf 3 = 1 := by kernel_rfl
theorem bytesOfI : Tryd.prog.bytesOf 3 = 8 := by kernel_rfl
structure IsInts (w : World) (ao : Option Addr) (n cap : Nat) (zs : List Int) : Prop where
  len : n = zs.length
  fits : n ≤ cap
  reach : cap ≤ 140737488351232
  nil : ao = none → cap = 0
  seg : SegI w ao zs
  plain : ∀ ad, ao = some ad → cap = 0 ∨ ∃ b off, ad = ⟨b, off, none⟩
  wf : ∀ z ∈ zs, Mn.Fit z
theorem ints_in {H : Type} {enc : TypeId × Value → H} {W : World} {ao : Option Addr} {n cap : Nat} {d : DataW H} {p : List MemPlace} {ts : List TypeId} {ds : List (DataW H)} (j : Nat)
    (hj : DataW.Trod enc Tryd.prog W 0 (fun _ => true) true 23 (.slice ao n cap) d p)
    (hsz : (DataW.weightsEach Tryd.prog ts ds).all (· ≤ reachBytes) = true) (ht : ts[j]? = some 23) (hd : ds[j]? = some d) : ∃ zs, IsInts W ao n cap zs := by
  obtain ⟨fuel, hf⟩ := hj
  rcases open_ints Tryd.underlying23 Tryd.underlying3 cellsOfI hf with ⟨hcs, _⟩ | ⟨x, l, c, zs, hcs, _, hl, hm, hz, hx, hcell, hwz⟩
  · simp [Value.cells] at hcs
    obtain ⟨rfl, rfl, rfl⟩ := hcs
    exact ⟨[], rfl, by omega, by omega, fun _ => rfl, .inl rfl, fun _ _ => .inl rfl, by simp⟩
  · simp [Value.cells] at hcs
    obtain ⟨rfl, rfl, rfl⟩ := hcs
    simp only [if_true] at hz
    have hd' := congrArg Prod.fst hx
    simp only at hd'
    rw [hd'] at hd
    have hr := sized_slice hsz ht hd Tryd.underlying23
    rw [bytesOfI] at hr
    simp only [lits, List.length_map, List.length_take, List.length_drop, reachBytes] at hr
    refine ⟨zs.take n, by simp; omega, hl, by omega, (fun h => by cases h), ?_, ?_, ?_⟩
    · by_cases h0 : 0 < zs.length
      · obtain ⟨b, off, rfl, hc⟩ := ints_at hcell h0
        refine .inr ⟨b, off, rfl, fun k hk => ?_⟩
        simp only [List.length_take] at hk
        rw [hc k (by omega), List.getElem_take]
        rw [List.getD_eq_getElem?_getD, List.getElem?_eq_getElem (by omega)]
        rfl
      · refine .inl ?_
        have : zs = [] := List.length_eq_zero_iff.1 (by omega)
        simp [this]
    · rintro ad ⟨⟩
      by_cases h0 : 0 < zs.length
      · obtain ⟨b, off, e, _⟩ := ints_at hcell h0
        exact .inr ⟨b, off, e⟩
      · exact .inl (by omega)
    · intro z hz
      have hw := hwz z (List.mem_of_mem_take hz)
      simpa [Lit.wf, IntKind.min, IntKind.max, IntKind.signed, IntKind.bits, Mn.Fit] using hw
end Go.Proofs.YtagofjnckdhopabDoor
