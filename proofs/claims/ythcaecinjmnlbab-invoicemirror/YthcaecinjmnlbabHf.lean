/- MERGED: AppR, VatT, MakeR, VSlice, RefPut, VatW, VatP, ILaw. (By mg11.py.) -/
import Derived.Test.YthcaecinjmnlbabHd
import Derived.Maps.AppendAt
import Derived.Laws.AppendOwnNone
import Derived.Laws.Rows
import Derived.RegionTactic
import Derived.Test.YthcaecinjmnlbabHe
import Derived.Laws.CopyOwn
import Derived.Laws.MakeOwn
import Derived.Deep.RegionHeld3
import Derived.Test.YthcaecinjmnlbabHb
/- append(own, rows...): A LAW FOR THE WALK, at a plain list and at a step of a region that draws its order. -/
namespace Go.Proofs.Ythcaecinjmnlbab
open Go.RowKit
open Vt (Rt)

/-- a row's cells -/
def rv (r : Rt) : List Value := [.string r.cat, .int .i64 r.y, .int .i64 r.m, .int .i64 r.d, .int .i64 r.bp]
theorem rv_len (r : Rt) : (rv r).length = 5 := rfl
theorem flat_len : ∀ rs : List Rt, (rs.flatMap rv).length = rs.length * 5
  | [] => rfl
  | r :: l => by
    rw [List.flatMap_cons, List.length_append, rv_len, flat_len l, List.length_cons]
    omega
theorem flat_at : ∀ (rs : List Rt) (k p : Nat) (hk : k < rs.length), p < 5 → (rs.flatMap rv)[k * 5 + p]? = (rv rs[k])[p]?
  | r :: l, 0, p, _, hp => by
    rw [List.flatMap_cons, List.getElem?_append_left (by rw [rv_len]; omega), Nat.zero_mul, Nat.zero_add]
    rfl
  | r :: l, k + 1, p, hk, hp => by
    rw [List.flatMap_cons, List.getElem?_append_right (by rw [rv_len]; omega), rv_len, show (k + 1) * 5 + p - 5 = k * 5 + p by omega]
    exact flat_at l k p (by simpa using hk) hp
theorem oneR (rs : List Rt) : ∀ v ∈ rs.flatMap rv, v.oneCell' = true := by
  intro v hv
  obtain ⟨r, _, h⟩ := List.mem_flatMap.1 hv
  unfold rv at h
  simp only [List.mem_cons, List.not_mem_nil, or_false] at h
  rcases h with rfl | rfl | rfl | rfl | rfl <;> rfl
theorem news_of {w : World} {b off : Nat} {rs : List Rt} (h : ∀ (k : Nat) (hk : k < rs.length), RowAt w b (off + k * 5) rs[k]) (j : Nat) (u : Value) (hu : (rs.flatMap rv)[j]? = some u) : w.cell? ((⟨b, off, none⟩ : Addr).add j) = some u := by
  have hj : j < (rs.flatMap rv).length := by
    obtain ⟨hj, _⟩ := List.getElem?_eq_some_iff.1 hu
    exact hj
  rw [flat_len] at hj
  obtain ⟨k, p, rfl, hp⟩ : ∃ k p, j = k * 5 + p ∧ p < 5 := ⟨j / 5, j % 5, by omega, by omega⟩
  have hk : k < rs.length := by omega
  rw [flat_at rs k p hk hp] at hu
  have ha : (⟨b, off, none⟩ : Addr).add (k * 5 + p) = ⟨b, off + k * 5 + p, none⟩ := by
    unfold Addr.add
    split
    · rename_i e
      simp only [Addr.mk.injEq, true_and, and_true]
      omega
    · simp only [Addr.mk.injEq, true_and, and_true]
      omega
  rw [ha]
  obtain ⟨c0, c1, c2, c3, c4⟩ := h k hk
  have hp' : p = 0 ∨ p = 1 ∨ p = 2 ∨ p = 3 ∨ p = 4 := by omega
  unfold rv at hu
  rcases hp' with rfl | rfl | rfl | rfl | rfl
  all_goals simp at hu
  all_goals subst hu
  · exact c0
  · exact c1
  · exact c2
  · exact c3
  · exact c4
/-- rows of the call's own -/
def OwnR (w : World) (B : Nat) (v : Value) (xs : List Rt) : Prop := w.ownsRow B 45 5 v xs.length (xs.flatMap rv)
theorem own_rts {w : World} {B : Nat} {v : Value} {xs : List Rt} (h : OwnR w B v xs) (hs : ∀ r ∈ xs, Short r) : ∃ ao cap, v = .slice ao xs.length cap ∧ Rts w ao xs.length cap xs ∧ (∀ ad, ao = some ad → ∃ g, ad = ⟨g, 0, none⟩ ∧ B ≤ g) := by
  rcases h.2 with ⟨h', h2⟩ | ⟨g, cap, cur, h', hb, hg, hnc, hcm, hcs, htake⟩
  · have e : xs = [] := List.length_eq_zero_iff.1 h2
    subst e
    exact ⟨none, 0, h', ⟨rfl, Nat.le_refl _, by omega, fun _ => rfl, .inl rfl, hs⟩, fun ad k => by cases k⟩
  · refine ⟨some ⟨g, 0, none⟩, cap, h', ⟨rfl, hnc, hcm, fun k => (by cases k), .inr ⟨g, 0, rfl, fun k hk => ?_⟩, hs⟩, fun ad k => by cases k; exact ⟨g, rfl, hb⟩⟩
    have hcell : ∀ p, p < 5 → w.cell? ⟨g, 0 + k * 5 + p, none⟩ = (rv xs[k])[p]? := by
      intro p hp
      rw [Nat.zero_add, cell_of_row w g _ _ _ _ hg, ← flat_at xs k p hk hp, ← htake, List.getElem?_take_of_lt (by omega)]
      simp
    exact ⟨hcell 0 (by omega), hcell 1 (by omega), hcell 2 (by omega), hcell 3 (by omega), hcell 4 (by omega)⟩
theorem infoR : ∃ z, (Try.prog.info? 45).map (fun i => (i.zero, i.size, i.bytes)) = some (some z, 5, 48) ∧ z.cells.size = 5 := ⟨.agg #[.string .empty, .int .i64 0, .int .i64 0, .int .i64 0, .int .i64 0], by kernel_rfl, rfl⟩
theorem wp_append_rows {o : Oper} {a : Act} {K : Act → World → Prop} {Q : Exit → Act → World → Prop} (w : World) (s x : Operand)
    (ho : o.op = .call { callee := .builtin .append, args := #[s, x], argTypes := #[22, 22] })
    (B : Nat) (v : Value) (xs : List Rt) (hs : a.eval s = v) (hown : OwnR w B v xs)
    (ao : Option Addr) (n cap : Nat) (zs : List Rt) (hx : a.eval x = .slice ao n cap) (hn : n = zs.length) (hnil : ao = none → cap = 0) (hsrc : SegR w ao zs) (hl : (xs.length + n) * 48 ≤ 140737488355328) (hb : B ≤ w.heap.size)
    (h : ∀ v' w1, OwnR w1 B v' (xs ++ zs) → w.grownBy w1 v.ownBlock → (v'.ownBlock = v.ownBlock ∨ v'.ownBlock = some w.heap.size) → K (a.put o.dst v') w1) : o.wp Try.prog a w K Q := by
  obtain ⟨z, hinf, hzs⟩ := infoR
  obtain ⟨i0, hi, hz0, hz1, hz2⟩ := info_parts hinf
  have hmx : maxLen = 9223372036854775807 := rfl
  have empty : zs = [] → n = 0 → OwnR w B v (xs ++ zs) := by
    intro e _
    rw [e, List.append_nil]
    exact hown
  cases ao with
  | none =>
    obtain rfl : cap = 0 := hnil rfl
    rcases hsrc with e | ⟨b, off, e, _⟩
    · obtain rfl : n = 0 := by rw [hn, e]; rfl
      have hrun := run_append_owned_none (P := Try.prog) (w := w) B 22 o.type 45 i0 5 Try.underlying22 hi v _ _ hown
      unfold Oper.wp
      simp [execOp, ho, resolve, invoke, builtin, hs, hx, hrun, Result.andThen]
      exact h v w (empty e rfl) ⟨rfl, rfl, rfl, Nat.le_refl _, fun _ _ _ => rfl⟩ (.inl rfl)
    · cases e
  | some ad =>
    obtain ⟨v', w', hr, h2, h3, _, h5⟩ := run_append_own_at (P := Try.prog) w B 22 o.type 45 i0 z 5 48 Try.underlying22 hi hz0 hz1 hz2 hzs (by omega) v xs.length (xs.flatMap rv) hown ad n cap (zs.flatMap rv) (by rw [flat_len, hn]) (by
      rcases hsrc with e | ⟨b, off, e, hc⟩
      · rw [e]
        intro j u hu
        simp at hu
      · cases e
        exact fun j u hu => news_of hc j u hu) (oneR zs) (by omega) hl hb
    unfold Oper.wp execOp
    simp only [ho, resolve, invoke, builtin, Sem.run_bind, Sem.run_pure, Result.andThen_ok, List.map_toArray, List.map_cons, List.map_nil, hs, hx, hr]
    refine h v' w' ?_ h3 h5
    unfold OwnR
    rw [List.flatMap_append, List.length_append, ← hn]
    exact h2
theorem wpList_append_rows {ops : Array Oper} {rest : List Oper} {o : Oper} {a : Act} {Q : Exit → Act → World → Prop} (w : World) (hgd : o.guard = none) (s x : Operand)
    (ho : o.op = .call { callee := .builtin .append, args := #[s, x], argTypes := #[22, 22] })
    (B : Nat) (v : Value) (xs : List Rt) (hs : a.eval s = v) (hown : OwnR w B v xs)
    (ao : Option Addr) (n cap : Nat) (zs : List Rt) (hx : a.eval x = .slice ao n cap) (hn : n = zs.length) (hnil : ao = none → cap = 0) (hsrc : SegR w ao zs) (hl : (xs.length + n) * 48 ≤ 140737488355328) (hb : B ≤ w.heap.size)
    (h : ∀ v' w1, OwnR w1 B v' (xs ++ zs) → w.grownBy w1 v.ownBlock → (v'.ownBlock = v.ownBlock ∨ v'.ownBlock = some w.heap.size) → wpList Try.prog ops Q rest (a.put o.dst v') w1) : wpList Try.prog ops Q (o :: rest) a w :=
  wpList_plain hgd fun _ hK => wp_append_rows w s x ho B v xs hs hown ao n cap zs hx hn hnil hsrc hl hb fun v' w1 h1 h2 h3 => hK _ _ (h v' w1 h1 h2 h3)
theorem step_append_rows {ops : Array Oper} {o : Oper} {a : Act} {K : Act → World → Prop} {Q : Exit → Act → World → Prop} {E : Prop} (w : World) (hgd : o.guard = none) (s x : Operand)
    (ho : o.op = .call { callee := .builtin .append, args := #[s, x], argTypes := #[22, 22] })
    (B : Nat) (v : Value) (xs : List Rt) (hs : a.eval s = v) (hown : OwnR w B v xs)
    (ao : Option Addr) (n cap : Nat) (zs : List Rt) (hx : a.eval x = .slice ao n cap) (hn : n = zs.length) (hnil : ao = none → cap = 0) (hsrc : SegR w ao zs) (hl : (xs.length + n) * 48 ≤ 140737488355328) (hb : B ≤ w.heap.size)
    (h : ∀ v' w1, OwnR w1 B v' (xs ++ zs) → w.grownBy w1 v.ownBlock → (v'.ownBlock = v.ownBlock ∨ v'.ownBlock = some w.heap.size) → K (a.put o.dst v') w1) :
    if Region.wanted o (yielded ops a.tmps) = true then Oper.wp Try.prog o a w K Q else E := by
  have hw : Region.wanted o (yielded ops a.tmps) = true := by simp [Region.wanted, hgd]
  rw [if_pos hw]
  exact wp_append_rows w s x ho B v xs hs hown ao n cap zs hx hn hnil hsrc hl hb h
/-! ### in a region that draws its order: all that is made lies behind a world's end -/
theorem own_ge {w : World} {B : Nat} {v : Value} {xs : List Rt} (h : OwnR w B v xs) : ∀ k, v.ownBlock = some k → B ≤ k := by
  intro k hk
  rcases h.2 with ⟨h', _⟩ | ⟨g, cap, cur, h', hb, _⟩
  · rw [h'] at hk
    cases hk
  · rw [h'] at hk
    simp only [Value.ownBlock, Option.some.injEq] at hk
    omega
theorem own_mono {w : World} {B C : Nat} {v : Value} {xs : List Rt} (h : OwnR w B v xs) (hc : C ≤ B) : OwnR w C v xs := by
  obtain ⟨h1, h2⟩ := h
  refine ⟨h1, ?_⟩
  rcases h2 with h2 | ⟨g, cap, cur, h', hb, h3⟩
  · exact .inl h2
  · exact .inr ⟨g, cap, cur, h', by omega, h3⟩
theorem own_empty {X : World} {B g : Nat} (hB : B ≤ g) (hg : X.heap[g]? = some (.cells #[] 45 (0, 0))) : OwnR X B (.slice (some ⟨g, 0, none⟩) 0 0) [] :=
  ⟨rfl, .inr ⟨g, 0, #[], rfl, hB, hg, Nat.le_refl _, Nat.zero_le _, rfl, rfl⟩⟩
theorem own_alloc {w : World} {B : Nat} {v : Value} {xs : List Rt} (h : OwnR w B v xs) (o : Obj) : OwnR (w.alloc o) B v xs := World.ownsRow.alloc h o
/-- a row's block -/
def rowBlock (r : Rt) : Obj := .cells #[.string r.cat, .int .i64 r.y, .int .i64 r.m, .int .i64 r.d, .int .i64 r.bp] 45 (0, 0)
theorem seg_block {X : World} {g : Nat} {r : Rt} (h : X.heap[g]? = some (rowBlock r)) : SegR X (some ⟨g, 0, none⟩) [r] := by
  refine .inr ⟨g, 0, rfl, fun k hk => ?_⟩
  obtain rfl : k = 0 := by simpa using hk
  unfold rowBlock at h
  refine ⟨?_, ?_, ?_, ?_, ?_⟩
  all_goals rw [cell_of_row X g _ _ _ _ h]
  all_goals rfl
theorem step_rows {ops : Array Oper} {o : Oper} {a : Act} {K : Act → World → Prop} {Q : Exit → Act → World → Prop} {E : Prop} (X x : World) (hX : Below x.heap.size x X) (hgd : o.guard = none) (s t : Operand)
    (ho : o.op = .call { callee := .builtin .append, args := #[s, t], argTypes := #[22, 22] })
    (v : Value) (xs : List Rt) (hs : a.eval s = v) (hown : OwnR X x.heap.size v xs)
    (ao : Option Addr) (n cap : Nat) (zs : List Rt) (ht : a.eval t = .slice ao n cap) (hn : n = zs.length) (hnil : ao = none → cap = 0) (hsrc : SegR X ao zs) (hl : xs.length + n ≤ 1000)
    (h : ∀ v' w1, OwnR w1 x.heap.size v' (xs ++ zs) → X.grownBy w1 v.ownBlock → Below x.heap.size x w1 → K (a.put o.dst v') w1) :
    if Region.wanted o (yielded ops a.tmps) = true then Oper.wp Try.prog o a X K Q else E :=
  step_append_rows X hgd s t ho x.heap.size v xs hs hown ao n cap zs ht hn hnil hsrc (by omega) hX.size fun v' w1 h1 h2 _ => h v' w1 h1 h2 (hX.grown h2 hX.size (own_ge hown))
theorem heap_old {x : World} {o o' : Obj} {g : Nat} (h : x.heap[g]? = some o) : (x.alloc o').heap[g]? = some o := by
  have hg : g < x.heap.size := by
    obtain ⟨hg, _⟩ := Array.getElem?_eq_some_iff.1 h
    exact hg
  rw [← h]
  exact (((Below.refl x.heap.size x).alloc (Nat.le_refl _) o').block g hg)
theorem heap_next (x : World) (o o' : Obj) : ((x.alloc o).alloc o').heap[x.heap.size + 1]? = some o' := by
  have h := heap_alloc_new (x.alloc o) o'
  have e : (x.alloc o).heap.size = x.heap.size + 1 := by simp
  rw [e] at h
  exact h
theorem blk_keep {X y : World} {row : Option Nat} {g : Nat} {o : Obj} (gr : X.grownBy y row) (h : X.heap[g]? = some o) (hne : some g ≠ row) : y.heap[g]? = some o := by
  have hg : g < X.heap.size := by
    obtain ⟨hg, _⟩ := Array.getElem?_eq_some_iff.1 h
    exact hg
  rw [gr.block g hg hne]
  exact h
theorem own_below {w u : World} {B : Nat} {v : Value} {xs : List Rt} (h : OwnR w B v xs) (k : Below w.heap.size w u) : OwnR u B v xs := by
  obtain ⟨h1, h2⟩ := h
  refine ⟨h1, ?_⟩
  rcases h2 with h2 | ⟨g, cap, cur, h', hb, hg, h3⟩
  · exact .inl h2
  · refine .inr ⟨g, cap, cur, h', hb, ?_, h3⟩
    have hl : g < w.heap.size := by
      obtain ⟨hl, _⟩ := Array.getElem?_eq_some_iff.1 hg
      exact hl
    rw [k.block g hl]
    exact hg
end Go.Proofs.Ythcaecinjmnlbab

/- CONTRACTS OF PACKAGE vat: taken. -/
namespace Go.Proofs.Ythcaecinjmnlbab
open Go.RowKit
open Vt (Rt)
open Go.Sort (grow)

namespace Vt
/-- the same category, the same day -/
def sameB (r a : Rt) : Bool := decide (a.cat = r.cat) && decide (a.y = r.y) && decide (a.m = r.m) && decide (a.d = r.d)
theorem same_yes {r a : Rt} (h0 : a.cat = r.cat) (h1 : a.y = r.y) (h2 : a.m = r.m) (h3 : a.d = r.d) : sameB r a = true := by
  unfold sameB
  rw [decide_eq_true h0, decide_eq_true h1, decide_eq_true h2, decide_eq_true h3]
  rfl
theorem same_no {r a : Rt} (h : a.cat ≠ r.cat ∨ a.y ≠ r.y ∨ a.m ≠ r.m ∨ a.d ≠ r.d) : sameB r a = false := by
  rw [Bool.eq_false_iff]
  intro k
  unfold sameB at k
  simp only [Bool.and_eq_true, decide_eq_true_iff] at k
  rcases h with h | h | h | h
  · exact h k.1.1.1
  · exact h k.1.1.2
  · exact h k.1.2
  · exact h k.2
theorem same_dy {r a : Rt} (h : sameB r a = true) : a.cat = r.cat ∧ dy a = dy r := by
  unfold sameB at h
  simp only [Bool.and_eq_true, decide_eq_true_iff] at h
  refine ⟨h.1.1.1, ?_⟩
  unfold dy
  rw [h.1.1.2, h.1.2, h.2]
theorem same_lt {r a : Rt} (h : lt a r = true ∨ lt r a = true) : sameB r a = false := by
  rw [Bool.eq_false_iff]
  intro k
  obtain ⟨k1, k2⟩ := same_dy k
  rcases h with h | h
  · rw [lt_same k1, decide_eq_true_iff] at h
    omega
  · rw [lt_same k1.symm, decide_eq_true_iff] at h
    omega
theorem any_same (r : Rt) (l : List Rt) (h : ∀ a ∈ l, lt r a = true) : l.any (sameB r) = false := by
  rw [List.any_eq_false]
  intro a ha
  rw [same_lt (.inr (h a ha))]
  simp
theorem taken_any (r : Rt) (hr : rowE r = 0) : ∀ l : List Rt, Sorted l → (∀ a ∈ l, rowE a = 0) → taken l r = l.any (sameB r)
  | [], _, _ => rfl
  | a :: l, hs, he => by
    unfold Sorted at hs
    rw [List.pairwise_cons] at hs
    rw [List.any_cons]
    rcases lt_tri a r with h | ⟨h1, h2⟩ | h
    · rw [taken_cons h, same_lt (.inl h), Bool.false_or]
      exact taken_any r hr l hs.2 fun b hb => he b (List.mem_cons_of_mem _ hb)
    · have ha := rowE_0.1 (he a (List.mem_cons_self ..))
      have hb := rowE_0.1 hr
      have hd : Dt.num a.y a.m a.d = Dt.num r.y r.m r.d := by
        unfold dy at h2
        rw [Dt.days_right ha.2.1, Dt.days_right hb.2.1] at h2
        exact h2
      obtain ⟨e1, e2, e3⟩ := Dt.num_inj ha.2.1 hb.2.1 hd
      have l1 : lt a r = false := by rw [lt_same h1]; exact decide_eq_false (by omega)
      have l2 : lt r a = false := by rw [lt_same h1.symm]; exact decide_eq_false (by omega)
      rw [taken_head l1, l2, same_yes h1 e1 e2 e3]
      rfl
    · rw [taken_head (lt_asymm h), h, same_lt (.inr h), any_same r l fun b hb => lt_trans h (hs.1 b hb)]
      rfl
theorem any_at (r : Rt) (l : List Rt) (k : Nat) (h : k < l.length) : (l.drop k).any (sameB r) = (sameB r l[k] || (l.drop (k + 1)).any (sameB r)) := by
  rw [List.drop_eq_getElem_cons h]
  rfl
end Vt
theorem vatBare_agg (r : Rt) (u : World) (i : Nat) (os : Array Obj) : Ans 35 #[.agg #[.string r.cat, .int .i64 r.y, .int .i64 r.m, .int .i64 r.d, .int .i64 r.bp]] u i os (.agg #[.string r.cat, .int .i64 r.y, .int .i64 r.m, .int .i64 r.d, .int .i64 0]) :=
  Calls.regrown_of (vat_bare r _ _ (Below.refl _ _))
set_option maxHeartbeats 2000000 in
theorem vat_taken (rs : List Rt) (ao : Option Addr) (n cap : Nat) (r : Rt) (w0 w : World) (hw : Below w0.heap.size w0 w) (hR : Rts w ao n cap rs) :
    Calls Try.prog 23 #[.slice ao n cap, rowV r] w fun e w' => e = .returned (.bool (rs.any (Vt.sameB r))) ∧ Below w0.heap.size w0 w' := by
  have HW := Lib.hid hw
  have HR := Lib.hid hR
  have HN := Lib.hid hR.len
  have hcap := hR.reach
  have hfit := hR.fits
  clear hw hR
  unfold rowV
  go_enter Try.func23, Try.ntmps23
  go_wp2
  go_loopw [6, 9] (fun _ i wr => ∃ k : Nat, k ≤ n ∧ i = .int .i64 k ∧ Hid ((rs.drop k).any (Vt.sameB r) = rs.any (Vt.sameB r)) ∧ Hid (Below w.heap.size w wr) ∧ Hid (RowC wr w.heap.size r)) (fun _ i _ => n - (intOf i).toNat)
  case atStart => exact ⟨0, by omega, rfl, Lib.hid rfl, Lib.hid (below_boxR w r), Lib.hid (rowC_box w r)⟩
  case round =>
    obtain ⟨k, hk, rfl, HK, HB, HC⟩ := hrel
    by_cases hlt : k < n
    · obtain ⟨b, off, rfl⟩ := HR.out.at (by omega)
      have hkr : k < rs.length := HN.out ▸ hlt
      obtain ⟨q, hq⟩ : ∃ q, rs[k] = q := ⟨_, rfl⟩
      have hrow := (HR.out.row k hkr).below HB.out
      have HSt := Lib.hid (Vt.any_at r rs k hkr)
      rw [hq] at hrow HSt
      clear hq
      obtain ⟨g0, g1, g2, g3, g4⟩ := hrow
      obtain ⟨W, hW, hbW, hA⟩ := boxed1 wr q
      have HBW := Lib.hid (bchain HB.out hbW)
      have hC := HC.out.below hbW
      have HCW := Lib.hid hC
      clear hbW
      unfold RowC at hA hC
      obtain ⟨a0, a1, a2, a3, a4⟩ := hA
      obtain ⟨b0, b1, b2, b3, b4⟩ := hC
      have k0 := cell_regrown a0
      have k1 := cell_regrown a1
      have k2 := cell_regrown a2
      have k3 := cell_regrown a3
      have k4 := cell_regrown a4
      have l0 := cell_regrown b0
      have l1 := cell_regrown b1
      have l2 := cell_regrown b2
      have l3 := cell_regrown b3
      have l4 := cell_regrown b4
      have c1 := vatBare_agg q
      have c2 := vatBare_agg r
      by_cases e : q.cat = r.cat ∧ q.y = r.y ∧ q.m = r.m ∧ q.d = r.d
      · have HS := Lib.hid (Vt.same_yes e.1 e.2.1 e.2.2.1 e.2.2.2)
        have q0 : (q.cat.toList == r.cat.toList) = true := beq_iff_eq.2 (by rw [e.1])
        have q1 : (q.y == r.y) = true := beq_iff_eq.2 e.2.1
        have q2 : (q.m == r.m) = true := beq_iff_eq.2 e.2.2.1
        have q3 : (q.d == r.d) = true := beq_iff_eq.2 e.2.2.2
        clear e
        go_wp2
        refine wp_region_quiet_below (by kernel_rfl) (by kernel_rfl) ?_
        repeat (first | go_big_quiet_step (first | (go_at_call_of 35 (Value.string q.cat); exact c1 _ _ _) | (go_at_call_of 35 (Value.string r.cat); exact c2 _ _ _)) | quiet_step (first | (go_at_call_of 35 (Value.string q.cat); exact c1 _ _ _) | (go_at_call_of 35 (Value.string r.cat); exact c2 _ _ _)))
        refine wpQuiet_nil ?_
        intro _ hw'
        obtain ⟨⟨dq, osq⟩, hw''⟩ := hw'
        subst hw''
        have HBv := Lib.hid (bchain HBW.out (below_regrown W dq osq))
        go_wp2
        go_ret
        exact ⟨ret_bool (by rw [← HK.out, HSt.out, HS.out]; rfl), bchain HW.out HBv.out⟩
      · have HS : Hid (Vt.sameB r q = false) := Lib.hid (Vt.same_no (by
          by_cases e0 : q.cat = r.cat
          · by_cases e1 : q.y = r.y
            · by_cases e2 : q.m = r.m
              · exact .inr (.inr (.inr fun e3 => e ⟨e0, e1, e2, e3⟩))
              · exact .inr (.inr (.inl e2))
            · exact .inr (.inl e1)
          · exact .inl e0))
        have hq : (q.cat.toList == r.cat.toList) = false ∨ ((q.cat.toList == r.cat.toList) = true ∧ (q.y == r.y) = false) ∨ ((q.cat.toList == r.cat.toList) = true ∧ (q.y == r.y) = true ∧ (q.m == r.m) = false) ∨ ((q.cat.toList == r.cat.toList) = true ∧ (q.y == r.y) = true ∧ (q.m == r.m) = true ∧ (q.d == r.d) = false) := by
          by_cases e0 : q.cat = r.cat
          · have h0 : (q.cat.toList == r.cat.toList) = true := beq_iff_eq.2 (by rw [e0])
            by_cases e1 : q.y = r.y
            · by_cases e2 : q.m = r.m
              · exact .inr (.inr (.inr ⟨h0, beq_iff_eq.2 e1, beq_iff_eq.2 e2, beq_eq_false_iff_ne.2 fun e3 => e ⟨e0, e1, e2, e3⟩⟩))
              · exact .inr (.inr (.inl ⟨h0, beq_iff_eq.2 e1, beq_eq_false_iff_ne.2 e2⟩))
            · exact .inr (.inl ⟨h0, beq_eq_false_iff_ne.2 e1⟩)
          · exact .inl (beq_eq_false_iff_ne.2 fun k => e0 (Vt.cat_ext k))
        clear e
        rcases hq with q0 | ⟨q0, q1⟩ | ⟨q0, q1, q2⟩ | ⟨q0, q1, q2, q3⟩
        all_goals
          go_wp2
          refine wp_region_quiet_below (by kernel_rfl) (by kernel_rfl) ?_
          repeat (first | go_big_quiet_step (first | (go_at_call_of 35 (Value.string q.cat); exact c1 _ _ _) | (go_at_call_of 35 (Value.string r.cat); exact c2 _ _ _)) | quiet_step (first | (go_at_call_of 35 (Value.string q.cat); exact c1 _ _ _) | (go_at_call_of 35 (Value.string r.cat); exact c2 _ _ _)))
          refine wpQuiet_nil ?_
          intro _ hw'
          obtain ⟨⟨dq, osq⟩, hw''⟩ := hw'
          subst hw''
          have HBv := Lib.hid (bchain HBW.out (below_regrown W dq osq))
          have HCv := Lib.hid (HCW.out.below (below_regrown W dq osq))
          go_wp2
          go_roundw
          case rel => exact ⟨k + 1, by omega, by go_num, Lib.hid (by rw [← HK.out, HSt.out, HS.out, Bool.false_or]), HBv, HCv⟩
          case measure => simp [intOf]; omega
    · obtain rfl : k = n := by omega
      go_wp2
      go_ret
      exact ⟨ret_bool (by rw [← HK.out, List.drop_eq_nil_of_le (Nat.le_of_eq HN.out.symm)]; rfl), bchain HW.out HB.out⟩
end Go.Proofs.Ythcaecinjmnlbab

/- make([]api.Rate, n), copy(rows, rows): A WHOLE BLOCK OF ROWS THAT MAY BE WRITTEN. -/
namespace Go.Proofs.Ythcaecinjmnlbab
open Go.RowKit
open Vt (Rt)

/-- a whole block of rows, none of it frozen -/
def BlockR (w : World) (g : Nat) (ts : List Rt) : Prop := w.heap[g]? = some (.cells (ts.flatMap rv).toArray 45 (0, 0))
theorem BlockR.lt {w : World} {g : Nat} {ts : List Rt} (h : BlockR w g ts) : g < w.heap.size := by
  obtain ⟨hg, _⟩ := Array.getElem?_eq_some_iff.1 h
  exact hg
theorem BlockR.below {w u : World} {g : Nat} {ts : List Rt} (h : BlockR w g ts) (k : Below w.heap.size w u) : BlockR u g ts := (k.block g h.lt).trans h
theorem BlockR.row {w : World} {g : Nat} {ts : List Rt} (h : BlockR w g ts) (k : Nat) (hk : k < ts.length) : RowAt w g (k * 5) ts[k] := by
  have hc : ∀ p, p < 5 → w.cell? ⟨g, k * 5 + p, none⟩ = (rv ts[k])[p]? := by
    intro p hp
    rw [cell_of_row w g _ _ _ _ h, ← flat_at ts k p hk hp]
    simp
  exact ⟨hc 0 (by omega), hc 1 (by omega), hc 2 (by omega), hc 3 (by omega), hc 4 (by omega)⟩
theorem BlockR.frozen {w : World} {g : Nat} {ts : List Rt} (h : BlockR w g ts) (k : Nat) : w.frozen? ⟨g, k, none⟩ = false := frozen_of_row w g k _ _ h
theorem BlockR.rts {w : World} {g : Nat} {ts zs : List Rt} (h : BlockR w g (ts ++ zs)) (n cap : Nat) (hn : n = ts.length) (hc : n ≤ cap) (hm : cap ≤ 9223372036854775807) (hs : ∀ r ∈ ts, Short r) : Rts w (some ⟨g, 0, none⟩) n cap ts := by
  refine ⟨hn, hc, hm, (fun k => by cases k), .inr ⟨g, 0, rfl, fun k hk => ?_⟩, hs⟩
  have hr := h.row k (by rw [List.length_append]; omega)
  rw [List.getElem_append_left hk] at hr
  rw [Nat.zero_add]
  exact hr
def zeroR : Rt := ⟨.empty, 0, 0, 0, 0⟩
def zeroV : Value := .agg #[.string .empty, .int .i64 0, .int .i64 0, .int .i64 0, .int .i64 0]
def zerosR (n : Nat) : Array Value := ((List.replicate n zeroR).flatMap rv).toArray
theorem infoZ : (Try.prog.info? 45).map (fun i => (i.zero, i.size, i.bytes)) = some (some zeroV, 5, 48) := by kernel_rfl
theorem sizeZ : (Try.prog.info? 45).map (·.size) = some 5 := by kernel_rfl
theorem made_rows (n : Nat) : madeCells zeroV.cells (n * 5) = zerosR n := by
  apply Array.ext_getElem?
  intro j
  by_cases hj : j < n * 5
  · obtain ⟨k, p, rfl, hp⟩ : ∃ k p, j = k * 5 + p ∧ p < 5 := ⟨j / 5, j % 5, by omega, by omega⟩
    have hk : k < n := by omega
    have hz : (zerosR n)[k * 5 + p]? = (rv zeroR)[p]? := by
      unfold zerosR
      rw [List.getElem?_toArray, flat_at (List.replicate n zeroR) k p (by simpa using hk) hp, List.getElem_replicate]
    rw [hz]
    have e : (k * 5 + p) % 5 = p := by omega
    have hp' : p = 0 ∨ p = 1 ∨ p = 2 ∨ p = 3 ∨ p = 4 := by omega
    unfold madeCells
    rw [Array.getElem?_map, Array.getElem?_range, if_pos hj]
    simp only [Option.map_some]
    rw [show zeroV.cells.size = 5 from rfl, e]
    rcases hp' with rfl | rfl | rfl | rfl | rfl <;> rfl
  · rw [Array.getElem?_eq_none (by rw [size_madeCells]; omega), Array.getElem?_eq_none]
    unfold zerosR
    rw [List.size_toArray, flat_len, List.length_replicate]
    omega
/-- make([]api.Rate, n) -/
theorem make_rows (n : Nat) (hn : n ≤ 1000) (u : World) : (Instr.makeSlice 22 (.int .i64 (n : Int)) (.int .i64 (n : Int))).run Try.prog u =
    .ok (.slice (some ⟨u.heap.size, 0, none⟩) n n) (u.alloc (.cells (zerosR n) 45)) := by
  obtain ⟨i0, hi, hz0, hz1, hz2⟩ := info_parts infoZ
  have h := run_make (P := Try.prog) u 22 45 i0 zeroV Try.underlying22 hi hz0 .i64 .i64 (n : Int) (n : Int) (by omega) (Int.le_refl _) (by rw [hz2]; omega) (by omega)
  rw [hz1, Int.toNat_natCast, made_rows] at h
  exact h
theorem block_made (u : World) (n : Nat) : BlockR (u.alloc (.cells (zerosR n) 45)) u.heap.size (List.replicate n zeroR) := heap_alloc_new u _
/-- copy(dst, src), dst a block of the call's own from its head on, no shorter than src -/
theorem copy_rows (u : World) (g : Nat) (ts : List Rt) (dCap : Nat) (ao : Option Addr) (n cap : Nat) (rs : List Rt) (hb : BlockR u g (List.replicate n zeroR ++ ts)) (hn : n = rs.length) (hs : SegR u ao rs) :
    ∃ u', (Builtin.copy_ #[22, 22] 3 #[.slice (some ⟨g, 0, none⟩) (n + ts.length) dCap, .slice ao n cap]).run Try.prog u = .ok (goInt n) u' ∧ BlockR u' g (rs ++ ts) ∧ (∀ B w0, Below B w0 u → B ≤ g → Below B w0 u') ∧ u'.heap.size = u.heap.size := by
  obtain ⟨i0, hi, hi5⟩ := Option.map_eq_some_iff.1 sizeZ
  have hmin : Nat.min n (n + ts.length) = n := Nat.min_eq_left (by omega)
  rcases hs with e | ⟨b, off, rfl, hc⟩
  · subst e
    obtain rfl : n = 0 := hn
    refine ⟨u, ?_, by simpa using hb, fun _ _ h _ => h, rfl⟩
    have hl : ∀ (x : Addr), (loadCells x 0).run Try.prog u = .ok #[] u := fun x => by simpa using run_loadCells_list (P := Try.prog) u x [] (by simp)
    cases ao <;> simp [Builtin.copy_, run_underlying Try.underlying22, Builtin.lenOf, Builtin.firstCells, sizeOf, typeInfo, hi, storeCells, hl]
  · have hl := run_loadCells_list (P := Try.prog) u ⟨b, off, none⟩ (rs.flatMap rv) (fun j v hv => news_of hc j v hv)
    have hst := run_storeCells_at Try.prog g 0 45 (rs.flatMap rv) 0 _ u hb (by rw [List.size_toArray, flat_len, flat_len, List.length_append, List.length_replicate]; omega) (oneR rs)
    have hlen : (rs.flatMap rv).length = n * 5 := by rw [flat_len, hn]
    have e : (((List.replicate n zeroR ++ ts).flatMap rv).toArray.toList.take (0 + 0) ++ rs.flatMap rv ++ ((List.replicate n zeroR ++ ts).flatMap rv).toArray.toList.drop (0 + 0 + (rs.flatMap rv).length)) = (rs ++ ts).flatMap rv := by
      rw [List.toList_toArray, List.take_zero, List.nil_append, Nat.zero_add, hlen, List.flatMap_append, List.flatMap_append, List.drop_left' (by rw [flat_len, List.length_replicate])]
    rw [e] at hst
    refine ⟨u.setRow g ((rs ++ ts).flatMap rv).toArray, ?_, setRow_heap u g _ _ 45 _ hb, fun B w0 h hB => below_setRow h hB _, by simp [World.setRow]⟩
    rw [hlen] at hl
    simp [Builtin.copy_, run_underlying Try.underlying22, Builtin.lenOf, Builtin.firstCells, sizeOf, typeInfo, hi, hi5, hmin, hl, hst]
theorem set_right {a : Rt} (X : List Value) (k p : Nat) (v : Value) : (rv a ++ X).set ((k + 1) * 5 + p) v = rv a ++ X.set (k * 5 + p) v := by
  rw [List.set_append_right _ _ (by rw [rv_len]; omega), rv_len, show (k + 1) * 5 + p - 5 = k * 5 + p by omega]
theorem flat_set : ∀ (ts : List Rt) (k : Nat) (r : Rt), k < ts.length → (ts.set k r).flatMap rv = ((((((ts.flatMap rv).set (k * 5) (.string r.cat)).set (k * 5 + 1) (.int .i64 r.y)).set (k * 5 + 2) (.int .i64 r.m)).set (k * 5 + 3) (.int .i64 r.d)).set (k * 5 + 4) (.int .i64 r.bp))
  | a :: l, 0, r, _ => rfl
  | a :: l, k + 1, r, h => by
    have ih := flat_set l k r (by simpa using h)
    have e0 := fun (X : List Value) (v : Value) => set_right (a := a) X k 0 v
    simp only [Nat.add_zero] at e0
    rw [List.set_cons_succ, List.flatMap_cons, ih, List.flatMap_cons, e0, set_right, set_right, set_right, set_right]
/-- a row stored -/
theorem BlockR.store {w : World} {g : Nat} {ts : List Rt} (h : BlockR w g ts) (k : Nat) (hk : k < ts.length) (r : Rt) :
    BlockR (((((w.setCell ⟨g, k * 5, none⟩ (.string r.cat)).setCell ⟨g, k * 5 + 1, none⟩ (.int .i64 r.y)).setCell ⟨g, k * 5 + 2, none⟩ (.int .i64 r.m)).setCell ⟨g, k * 5 + 3, none⟩ (.int .i64 r.d)).setCell ⟨g, k * 5 + 4, none⟩ (.int .i64 r.bp)) g (ts.set k r) := by
  have h1 := heap_setCell_same _ g (k * 5) _ _ (.string r.cat) h
  have h2 := heap_setCell_same _ g (k * 5 + 1) _ _ (.int .i64 r.y) h1
  have h3 := heap_setCell_same _ g (k * 5 + 2) _ _ (.int .i64 r.m) h2
  have h4 := heap_setCell_same _ g (k * 5 + 3) _ _ (.int .i64 r.d) h3
  have h5 := heap_setCell_same _ g (k * 5 + 4) _ _ (.int .i64 r.bp) h4
  unfold BlockR
  rw [h5, flat_set ts k r hk]
  simp only [List.setIfInBounds_toArray]
theorem below_store {B g : Nat} {w0 w : World} (h : Below B w0 w) (hg : B ≤ g) (k : Nat) (a b c d e : Value) :
    Below B w0 (((((w.setCell ⟨g, k * 5, none⟩ a).setCell ⟨g, k * 5 + 1, none⟩ b).setCell ⟨g, k * 5 + 2, none⟩ c).setCell ⟨g, k * 5 + 3, none⟩ d).setCell ⟨g, k * 5 + 4, none⟩ e) :=
  ((((h.setCell hg a).setCell hg b).setCell hg c).setCell hg d).setCell hg e
end Go.Proofs.Ythcaecinjmnlbab

/- PIECES OF A SLICE OF ROWS. -/
namespace Go.Proofs.Ythcaecinjmnlbab
open Go.RowKit
open Vt (Rt)

theorem sizeR (u : World) : (sizeOf (Try.prog.elem 22)).run Try.prog u = .ok 5 u := by
  have h : (Try.prog.info? (Try.prog.elem 22)).map (·.size) = some 5 := by kernel_rfl
  obtain ⟨i, hi, hs⟩ := Option.map_eq_some_iff.1 h
  simp [sizeOf, typeInfo, hi, hs]
theorem undR : Try.prog.underlying 22 = some (.slice (Try.prog.elem 22)) := by kernel_rfl
theorem rts_to {w : World} {ao : Option Addr} {n cap : Nat} {rs : List Rt} (h : Rts w ao n cap rs) (k : Nat) (hk : k ≤ n) :
    (∀ u, (Instr.slice 22 (.slice ao n cap) none (some (.int .i64 (k : Int))) none).run Try.prog u = .ok (.slice ao k cap) u) ∧ Rts w ao k cap (rs.take k) := by
  have hl := h.len
  have hf := h.fits
  refine ⟨fun u => ?_, ⟨by rw [List.length_take]; omega, by omega, h.reach, h.nil, ?_, fun r hr => h.short r (List.mem_of_mem_take hr)⟩⟩
  · rw [run_slice_h u 22 ao n cap undR .i64 k (by omega) (by omega), sizeR]
    have e : Option.map (fun x : Addr => x.add 0) ao = ao := by cases ao <;> simp [Addr.add]
    simp [Result.andThen, sliced, e]
  · rcases h.seg with e | ⟨b, off, e, hc⟩
    · exact .inl (by rw [e]; simp)
    · refine .inr ⟨b, off, e, fun j hj => ?_⟩
      rw [List.length_take] at hj
      rw [List.getElem_take]
      exact hc j (by omega)
theorem rts_from {w : World} {ao : Option Addr} {n cap : Nat} {rs : List Rt} (h : Rts w ao n cap rs) (k : Nat) (hk : k ≤ n) :
    ∃ ao2 cap2, (∀ u, (Instr.slice 22 (.slice ao n cap) (some (.int .i64 (k : Int))) none none).run Try.prog u = .ok (.slice ao2 (n - k) cap2) u) ∧ Rts w ao2 (n - k) cap2 (rs.drop k) := by
  have hl := h.len
  have hf := h.fits
  refine ⟨if cap = k then ao else ao.map (·.add (k * 5)), cap - k, fun u => ?_, ⟨by rw [List.length_drop]; omega, by omega, by have := h.reach; omega, ?_, ?_, fun r hr => h.short r (List.mem_of_mem_drop hr)⟩⟩
  · rw [run_slice_l u 22 ao n cap undR .i64 k (by omega) (by omega), sizeR]
    simp [Result.andThen, sliced]
  · by_cases e : cap = k
    · omega
    · rw [if_neg e]
      cases ao with
      | none => have := h.nil rfl; omega
      | some a => exact fun k => by cases k
  · by_cases hkn : k = n
    · exact .inl (List.drop_eq_nil_of_le (by omega))
    · rcases h.seg with e | ⟨b, off, rfl, hc⟩
      · exact .inl (by rw [e]; simp)
      · refine .inr ⟨b, off + k * 5, ?_, fun j hj => ?_⟩
        · rw [if_neg (by omega)]
          unfold Addr.add
          simp only [Option.map_some, Option.some.injEq]
          split
          · rename_i e
            rw [e]
            rfl
          · rfl
        · rw [List.length_drop] at hj
          rw [List.getElem_drop, show off + k * 5 + j * 5 = off + (k + j) * 5 by omega]
          exact hc (k + j) (by omega)
end Go.Proofs.Ythcaecinjmnlbab

/- THE DOCUMENT's OWN ANSWER: impostref3's Put. -/
namespace Go.Proofs.Ythcaecinjmnlbab
open Go.RowKit
open Vt (Rt)
open Go.Sort (grow)

/-- what Put answers: new memory, or nothing -/
def PutE (w : World) (rs : List Rt) (r : Rt) (e : Ending) (w' : World) : Prop := ∃ v, e = .returned (.tuple #[v, .int .i64 (Vt.putE rs r)]) ∧ OwnR w' w.heap.size v (Vt.putR rs r) ∧ Below w.heap.size w w'
theorem own_nil (w : World) (B : Nat) : OwnR w B (.slice none 0 0) [] := ⟨rfl, .inl ⟨rfl, rfl⟩⟩
theorem put_table {rs : List Rt} {r : Rt} (h : Vt.tableB rs = false) : Vt.putE rs r = 1 ∧ Vt.putR rs r = [] := by
  have e : Vt.putE rs r = 1 := if_pos h
  refine ⟨e, ?_⟩
  unfold Vt.putR
  rw [e]
  rfl
theorem put_row {rs : List Rt} {r : Rt} (h : Vt.tableB rs = true) (k : Vt.rowE r ≠ 0) : Vt.putE rs r = Vt.rowE r ∧ Vt.putR rs r = [] := by
  have e : Vt.putE rs r = Vt.rowE r := by
    unfold Vt.putE
    rw [if_neg (by rw [h]; simp), if_pos k]
  refine ⟨e, ?_⟩
  unfold Vt.putR
  rw [e, if_neg k]
theorem put_taken {rs : List Rt} {r : Rt} (h : Vt.tableB rs = true) (k : Vt.rowE r = 0) (l : Vt.taken rs r = true) : Vt.putE rs r = 12 ∧ Vt.putR rs r = [] := by
  have e : Vt.putE rs r = 12 := by
    unfold Vt.putE
    rw [if_neg (by rw [h]; simp), if_neg (by simpa using k), if_pos l]
  refine ⟨e, ?_⟩
  unfold Vt.putR
  rw [e]
  rfl
theorem put_long {rs : List Rt} {r : Rt} (h : Vt.tableB rs = true) (k : Vt.rowE r = 0) (l : Vt.taken rs r = false) (m : 24 ≤ rs.length) : Vt.putE rs r = 2 ∧ Vt.putR rs r = [] := by
  have e : Vt.putE rs r = 2 := by
    unfold Vt.putE
    rw [if_neg (by rw [h]; simp), if_neg (by simpa using k), if_neg (by rw [l]; simp), if_pos m]
  refine ⟨e, ?_⟩
  unfold Vt.putR
  rw [e]
  rfl
theorem put_ok {rs : List Rt} {r : Rt} (h : Vt.tableB rs = true) (k : Vt.rowE r = 0) (l : Vt.taken rs r = false) (m : rs.length < 24) : Vt.putE rs r = 0 ∧ Vt.putR rs r = Vt.putL rs r := by
  have e : Vt.putE rs r = 0 := by
    unfold Vt.putE
    rw [if_neg (by rw [h]; simp), if_neg (by simpa using k), if_neg (by rw [l]; simp), if_neg (by omega)]
  refine ⟨e, ?_⟩
  unfold Vt.putR
  rw [e]
  rfl
theorem spot_at (r : Rt) (rs : List Rt) (k : Nat) (h : k < rs.length) : Vt.spot r (rs.drop k) = if Vt.lt rs[k] r = true then Vt.spot r (rs.drop (k + 1)) + 1 else 0 := by
  rw [List.drop_eq_getElem_cons h]
  rfl
theorem below_boxR' (w : World) (r : Rt) : Below w.heap.size w (w.alloc (.cells #[.string r.cat, .int .i64 r.y, .int .i64 r.m, .int .i64 r.d, .int .i64 r.bp] 45)) := (Below.refl _ _).alloc (Nat.le_refl _) _
end Go.Proofs.Ythcaecinjmnlbab

/- CONTRACTS OF PACKAGE vat: with. -/
namespace Go.Proofs.Ythcaecinjmnlbab
open Go.RowKit
open Vt (Rt)
open Go.Sort (grow)

theorem make_cap (n : Nat) (hn : n ≤ 1000) (u : World) : (Instr.makeSlice 22 (.int .i64 0) (.int .i64 ((n : Int) + 1))).run Try.prog u =
    .ok (.slice (some ⟨u.heap.size, 0, none⟩) 0 (n + 1)) (u.alloc (.cells (zerosR (n + 1)) 45)) := by
  obtain ⟨i0, hi, hz0, hz1, hz2⟩ := info_parts infoZ
  have h := run_make (P := Try.prog) u 22 45 i0 zeroV Try.underlying22 hi hz0 .i64 .i64 0 ((n : Int) + 1) (by omega) (by omega) (by rw [hz2]; omega) (by omega)
  rw [hz1, show ((n : Int) + 1).toNat = n + 1 from by omega, made_rows] at h
  exact h
theorem own_cap (u : World) (B c : Nat) (hB : B ≤ u.heap.size) (hc : c ≤ 1000) : OwnR (u.alloc (.cells (zerosR c) 45)) B (.slice (some ⟨u.heap.size, 0, none⟩) 0 c) [] :=
  ⟨rfl, .inr ⟨u.heap.size, c, zerosR c, rfl, hB, heap_alloc_new u _, Nat.zero_le _, by have : maxLen = 9223372036854775807 := rfl; omega, by unfold zerosR; rw [List.size_toArray, flat_len, List.length_replicate], rfl⟩⟩
set_option maxHeartbeats 4000000 in
theorem vat_with (rs : List Rt) (ao : Option Addr) (n cap : Nat) (r : Rt) (w : World) (hR : Rts w ao n cap rs) (hs : Short r) (hn : n < 24) (hE : ∀ a ∈ rs, Vt.rowE a = 0) (he : Vt.rowE r = 0) :
    Calls Try.prog 24 #[.slice ao n cap, rowV r] w fun e w' => ∃ v, e = .returned v ∧ OwnR w' w.heap.size v (Vt.putL rs r) ∧ Below w.heap.size w w' := by
  have HR := Lib.hid hR
  have HS := Lib.hid hs
  have HN := Lib.hid hR.len
  have HE := Lib.hid hE
  have HEr := Lib.hid he
  have hcap := hR.reach
  have hfit := hR.fits
  clear hR hs hE he
  unfold rowV
  go_enter Try.func24, Try.ntmps24
  go_wp2
  go_loopw [5] (fun i wr => ∃ k : Nat, k ≤ n ∧ i = .int .i64 k ∧ Hid (k + Vt.spot r (rs.drop k) = Vt.spot r rs) ∧ Hid (Below w.heap.size w wr) ∧ Hid (RowC wr w.heap.size r)) (fun i _ => n - (intOf i).toNat)
  case atStart => exact ⟨0, by omega, rfl, Lib.hid (Nat.zero_add _), Lib.hid (below_boxR w r), Lib.hid (rowC_box w r)⟩
  case round =>
    rename World => wz
    obtain ⟨k, hk, rfl, HK, HB, HCz⟩ := hrel
    have hC := HCz.out
    unfold RowC at hC
    obtain ⟨a0, a1, a2, a3, a4⟩ := hC
    have l0 := cell_regrown a0
    have l1 := cell_regrown a1
    have l2 := cell_regrown a2
    have l3 := cell_regrown a3
    have l4 := cell_regrown a4
    by_cases hlt : k < n
    · obtain ⟨b, off, rfl⟩ := HR.out.at (by omega)
      have hkr : k < rs.length := HN.out ▸ hlt
      obtain ⟨q, hq⟩ : ∃ q, rs[k] = q := ⟨_, rfl⟩
      have hmem : q ∈ rs := hq ▸ List.getElem_mem hkr
      have hrow := (HR.out.row k hkr).below HB.out
      have HSt := Lib.hid (spot_at r rs k hkr)
      rw [hq] at hrow HSt
      obtain ⟨g0, g1, g2, g3, g4⟩ := hrow
      have k0 := cell_regrown g0
      have k1 := cell_regrown g1
      have k2 := cell_regrown g2
      have k3 := cell_regrown g3
      have k4 := cell_regrown g4
      have c1 := vatAhead_agg q r (HR.out.short q hmem) HS.out (HE.out q hmem) HEr.out
      clear hq hmem
      cases hqr : Vt.lt q r
      · rw [hqr] at c1
        rw [hqr, if_neg (by simp)] at HSt
        have HSp : Hid (Vt.spot r rs = k) := Lib.hid (by rw [← HK.out, HSt.out]; rfl)
        go_wp2
        refine wp_region_quiet_below (by kernel_rfl) (by kernel_rfl) ?_
        repeat (first | go_big_quiet_step (first | (go_at_call 34; exact c1 _ _ _)) | quiet_step (first | (go_at_call 34; exact c1 _ _ _)))
        refine wpQuiet_nil ?_
        intro _ hw'
        obtain ⟨⟨dq, osq⟩, hw''⟩ := hw'
        subst hw''
        have HBx := Lib.hid (bchain HB.out (below_regrown wz dq osq))
        have HCx := Lib.hid (HCz.out.below (below_regrown wz dq osq))
        clear k0 k1 k2 k3 k4 l0 l1 l2 l3 l4 g0 g1 g2 g3 g4 a0 a1 a2 a3 a4 c1
        generalize grow (redrawn wz dq) osq = x at *
        have HP : Hid (Vt.putL rs r = rs.take k ++ r :: rs.drop k) := Lib.hid (by unfold Vt.putL; rw [HSp.out])
        have HRx := Lib.hid (HR.out.below HBx.out)
        obtain ⟨hs1, hR1⟩ := rts_to HRx.out k (by omega)
        obtain ⟨ao2, cap2, hs2, hR2⟩ := rts_from HRx.out k (by omega)
        obtain ⟨j, hj⟩ : ∃ j, n - k = j := ⟨_, rfl⟩
        rw [hj] at hs2 hR2
        have HR1 := Lib.hid hR1
        have HR2 := Lib.hid hR2
        have hjb : j ≤ 24 := by omega
        have hkb : k ≤ 24 := by omega
        have hmk := make_cap n (by omega)
        clear hR1 hR2 hj
        have hB1 : Below x.heap.size x (x.alloc (.cells (zerosR (n + 1)) 45)) := (Below.refl _ _).alloc (Nat.le_refl _) _
        have HB1 := Lib.hid hB1
        clear hB1
        go_wp2_with (at_builtin; go_must (refine wpList_append_rows _ rfl (.tmp 25) (.tmp 28) rfl x.heap.size (.slice (some ⟨x.heap.size, 0, none⟩) 0 (n + 1)) [] rfl (own_cap x x.heap.size (n + 1) (Nat.le_refl _) (by omega)) (some ⟨b, off, none⟩) k cap (rs.take k) rfl HR1.out.len HR1.out.nil (HR1.out.below HB1.out).seg (by simp only [List.length_nil]; omega) (by simp) ?_))
        intro v1 y1 o1 gr1 _
        have hb1 := HB1.out.grown gr1 HB1.out.size (own_ge (own_cap x x.heap.size (n + 1) (Nat.le_refl _) (by omega)))
        have HO1 : Hid (∀ o, OwnR (y1.alloc o) x.heap.size v1 ([] ++ rs.take k)) := fun o => own_alloc o1 o
        have HY1 := Lib.hid hb1
        have hC := HCx.out.below hb1
        have HC1 := Lib.hid hC
        unfold RowC at hC
        obtain ⟨a0, a1, a2, a3, a4⟩ := hC
        have hsz1 : x.heap.size ≤ y1.heap.size := hb1.size
        clear o1 gr1 hb1
        go_wp2_with (at_builtin; go_must (refine wpList_append_rows _ rfl (.tmp 30) (.tmp 32) rfl x.heap.size v1 ([] ++ rs.take k) rfl (HO1.out _) (some ⟨y1.heap.size, 0, none⟩) 1 1 [r] rfl rfl (fun h => by cases h) (seg_block (heap_alloc_new y1 _)) (by rw [List.nil_append, ← HR1.out.len]; omega) (by simp; omega) ?_))
        intro v2 y2 o2 gr2 _
        have hb2 := (HY1.out.alloc HY1.out.size (rowBlock r)).grown gr2 (HY1.out.alloc HY1.out.size (rowBlock r)).size (own_ge (HO1.out (rowBlock r)))
        have HO2 := Lib.hid o2
        have HY2 := Lib.hid hb2
        clear o2 gr2 hb2 a0 a1 a2 a3 a4
        go_wp2_with (at_builtin; go_must (refine wpList_append_rows _ rfl (.tmp 34) (.tmp 37) rfl x.heap.size v2 ([] ++ rs.take k ++ [r]) rfl HO2.out ao2 j cap2 (rs.drop k) rfl HR2.out.len HR2.out.nil (HR2.out.below HY2.out).seg (by rw [List.nil_append, List.length_append, ← HR1.out.len, List.length_singleton]; omega) HY2.out.size ?_))
        intro v3 y3 o3 gr3 _
        have hb3 := HY2.out.grown gr3 HY2.out.size (own_ge HO2.out)
        have HO3 := Lib.hid o3
        have HY3 := Lib.hid hb3
        clear o3 gr3 hb3
        go_wp2
        go_ret
        exact ⟨v3, rfl, by rw [HP.out]; exact own_mono HO3.out HBx.out.size, bchain HBx.out HY3.out⟩
      · rw [hqr] at c1
        rw [hqr, if_pos rfl] at HSt
        go_wp2
        refine wp_region_quiet_below (by kernel_rfl) (by kernel_rfl) ?_
        repeat (first | go_big_quiet_step (first | (go_at_call 34; exact c1 _ _ _)) | quiet_step (first | (go_at_call 34; exact c1 _ _ _)))
        refine wpQuiet_nil ?_
        intro _ hw'
        obtain ⟨⟨dq, osq⟩, hw''⟩ := hw'
        subst hw''
        have HBv := Lib.hid (bchain HB.out (below_regrown wz dq osq))
        go_wp2
        go_roundw
        case rel => exact ⟨k + 1, by omega, by go_num, Lib.hid (by rw [← HK.out, HSt.out]; omega), HBv, Lib.hid (HCz.out.below (below_regrown wz dq osq))⟩
        case measure => simp [intOf]; omega
    · obtain rfl : k = n := by omega
      have HSp : Hid (Vt.spot r rs = k) := Lib.hid (by rw [← HK.out, List.drop_eq_nil_of_le (Nat.le_of_eq HN.out.symm)]; rfl)
      go_wp2
      refine wp_region_quiet_below (by kernel_rfl) (by kernel_rfl) ?_
      repeat (first | go_big_quiet_step (fail) | quiet_step (fail))
      refine wpQuiet_nil ?_
      intro _ hw'
      obtain ⟨⟨dq, osq⟩, hw''⟩ := hw'
      subst hw''
      have HBx := Lib.hid (bchain HB.out (below_regrown wz dq osq))
      have HCx := Lib.hid (HCz.out.below (below_regrown wz dq osq))
      clear l0 l1 l2 l3 l4 a0 a1 a2 a3 a4
      generalize grow (redrawn wz dq) osq = x at *
      have HP : Hid (Vt.putL rs r = rs.take k ++ r :: rs.drop k) := Lib.hid (by unfold Vt.putL; rw [HSp.out])
      have HRx := Lib.hid (HR.out.below HBx.out)
      obtain ⟨hs1, hR1⟩ := rts_to HRx.out k (by omega)
      obtain ⟨ao2, cap2, hs2, hR2⟩ := rts_from HRx.out k (by omega)
      obtain ⟨j, hj⟩ : ∃ j, k - k = j := ⟨_, rfl⟩
      rw [hj] at hs2 hR2
      have HR1 := Lib.hid hR1
      have HR2 := Lib.hid hR2
      have hjb : j ≤ 24 := by omega
      have hkb : k ≤ 24 := by omega
      have hmk := make_cap k (by omega)
      clear hR1 hR2 hj
      have hB1 : Below x.heap.size x (x.alloc (.cells (zerosR (k + 1)) 45)) := (Below.refl _ _).alloc (Nat.le_refl _) _
      have HB1 := Lib.hid hB1
      clear hB1
      go_wp2_with (at_builtin; go_must (refine wpList_append_rows _ rfl (.tmp 25) (.tmp 28) rfl x.heap.size (.slice (some ⟨x.heap.size, 0, none⟩) 0 (k + 1)) [] rfl (own_cap x x.heap.size (k + 1) (Nat.le_refl _) (by omega)) ao k cap (rs.take k) rfl HR1.out.len HR1.out.nil (HR1.out.below HB1.out).seg (by simp only [List.length_nil]; omega) (by simp) ?_))
      intro v1 y1 o1 gr1 _
      have hb1 := HB1.out.grown gr1 HB1.out.size (own_ge (own_cap x x.heap.size (k + 1) (Nat.le_refl _) (by omega)))
      have HO1 : Hid (∀ o, OwnR (y1.alloc o) x.heap.size v1 ([] ++ rs.take k)) := fun o => own_alloc o1 o
      have HY1 := Lib.hid hb1
      have hC := HCx.out.below hb1
      have HC1 := Lib.hid hC
      unfold RowC at hC
      obtain ⟨a0, a1, a2, a3, a4⟩ := hC
      have hsz1 : x.heap.size ≤ y1.heap.size := hb1.size
      clear o1 gr1 hb1
      go_wp2_with (at_builtin; go_must (refine wpList_append_rows _ rfl (.tmp 30) (.tmp 32) rfl x.heap.size v1 ([] ++ rs.take k) rfl (HO1.out _) (some ⟨y1.heap.size, 0, none⟩) 1 1 [r] rfl rfl (fun h => by cases h) (seg_block (heap_alloc_new y1 _)) (by rw [List.nil_append, ← HR1.out.len]; omega) (by simp; omega) ?_))
      intro v2 y2 o2 gr2 _
      have hb2 := (HY1.out.alloc HY1.out.size (rowBlock r)).grown gr2 (HY1.out.alloc HY1.out.size (rowBlock r)).size (own_ge (HO1.out (rowBlock r)))
      have HO2 := Lib.hid o2
      have HY2 := Lib.hid hb2
      clear o2 gr2 hb2 a0 a1 a2 a3 a4
      go_wp2_with (at_builtin; go_must (refine wpList_append_rows _ rfl (.tmp 34) (.tmp 37) rfl x.heap.size v2 ([] ++ rs.take k ++ [r]) rfl HO2.out ao2 j cap2 (rs.drop k) rfl HR2.out.len HR2.out.nil (HR2.out.below HY2.out).seg (by rw [List.nil_append, List.length_append, ← HR1.out.len, List.length_singleton]; omega) HY2.out.size ?_))
      intro v3 y3 o3 gr3 _
      have hb3 := HY2.out.grown gr3 HY2.out.size (own_ge HO2.out)
      have HO3 := Lib.hid o3
      have HY3 := Lib.hid hb3
      clear o3 gr3 hb3
      go_wp2
      go_ret
      exact ⟨v3, rfl, by rw [HP.out]; exact own_mono HO3.out HBx.out.size, bchain HBx.out HY3.out⟩
end Go.Proofs.Ythcaecinjmnlbab

/- CONTRACTS OF PACKAGE vat: Put. -/
namespace Go.Proofs.Ythcaecinjmnlbab
open Go.RowKit
open Vt (Rt)
open Go.Sort (grow)

set_option maxHeartbeats 2000000 in
theorem vat_put (rs : List Rt) (ao : Option Addr) (n cap : Nat) (r : Rt) (w : World) (hR : Rts w ao n cap rs) (hs : Short r) :
    Calls Try.prog 11 #[.slice ao n cap, rowV r] w (PutE w rs r) := by
  have HR := Lib.hid hR
  have HS := Lib.hid hs
  have HN := Lib.hid hR.len
  have hcap := hR.reach
  have hfit := hR.fits
  clear hR hs
  unfold rowV
  go_enter Try.func11, Try.ntmps11
  go_wp2_with fail
  refine (vat_right rs ao n cap _ _ (Below.refl _ _) (HR.out.below (below_boxR' w r))).mono ?_
  rintro e w1 ⟨rfl, b1⟩
  cases hT : Vt.tableB rs
  · have HP := Lib.hid (put_table (r := r) hT)
    have HB := Lib.hid (bchain (below_boxR' w r) b1)
    clear b1
    go_wp2_with fail
    go_ret2
    exact ⟨_, by rw [HP.out.1]; rfl, by rw [HP.out.2]; exact own_nil _ _, HB.out⟩
  · have HTT := Lib.hid hT
    have hC := (rowC_box w r).below b1
    have HC := Lib.hid hC
    unfold RowC at hC
    obtain ⟨a0, a1, a2, a3, a4⟩ := hC
    have HB1 := Lib.hid (bchain (below_boxR' w r) b1)
    clear b1 hT
    go_wp2_with fail
    refine (vat_row r _ _ (Below.refl _ _) HS.out).mono ?_
    rintro e w2 ⟨rfl, b2⟩
    clear a0 a1 a2 a3 a4
    have hC := HC.out.below b2
    have HC2 := Lib.hid hC
    unfold RowC at hC
    obtain ⟨a0, a1, a2, a3, a4⟩ := hC
    have HB2 := Lib.hid (bchain HB1.out b2)
    clear b2
    by_cases he : Vt.rowE r = 0
    · have HE := Lib.hid he
      have HTk := Lib.hid (Vt.taken_any r HE.out rs ((Vt.table_iff rs).1 HTT.out).2.2 ((Vt.table_iff rs).1 HTT.out).2.1)
      rw [he]
      clear he
      go_wp2_with fail
      refine (vat_taken rs ao n cap r _ _ (Below.refl _ _) (HR.out.below HB2.out)).mono ?_
      rintro e w3 ⟨rfl, b3⟩
      clear a0 a1 a2 a3 a4
      have hC := HC2.out.below b3
      unfold RowC at hC
      obtain ⟨a0, a1, a2, a3, a4⟩ := hC
      have HB3 := Lib.hid (bchain HB2.out b3)
      clear b3
      cases hk : rs.any (Vt.sameB r)
      · have HK : Hid (Vt.taken rs r = false) := Lib.hid (HTk.out.trans hk)
        clear hk
        by_cases h24 : n = 24
        · have hq : ((n : Int) == 24) = true := beq_iff_eq.2 (by omega)
          have HP := Lib.hid (put_long HTT.out HE.out HK.out (by have := HN.out; omega))
          clear h24
          go_wp2_with fail
          go_ret2
          exact ⟨_, by rw [HP.out.1]; rfl, by rw [HP.out.2]; exact own_nil _ _, HB3.out⟩
        · have hq : ((n : Int) == 24) = false := beq_eq_false_iff_ne.2 (by omega)
          have HL : Hid (n < 24) := Lib.hid (by have h1 := ((Vt.table_iff rs).1 HTT.out).1; have := HN.out; omega)
          have HP := Lib.hid (put_ok HTT.out HE.out HK.out (by have := HL.out; have := HN.out; omega))
          clear h24
          go_wp2_with fail
          refine (vat_with rs ao n cap r _ (HR.out.below HB3.out) HS.out HL.out ((Vt.table_iff rs).1 HTT.out).2.1 HE.out).mono ?_
          rintro e w4 ⟨v, rfl, o4, b4⟩
          have HO := Lib.hid (own_mono o4 HB3.out.size)
          have HB4 := Lib.hid (bchain HB3.out b4)
          clear o4 b4
          go_wp2_with fail
          go_ret2
          exact ⟨v, by rw [HP.out.1]; rfl, by rw [HP.out.2]; exact HO.out, HB4.out⟩
      · have HP := Lib.hid (put_taken HTT.out HE.out (HTk.out.trans hk))
        clear hk
        go_wp2_with fail
        go_ret2
        exact ⟨_, by rw [HP.out.1]; rfl, by rw [HP.out.2]; exact own_nil _ _, HB3.out⟩
    · have hne : (Vt.rowE r != 0) = true := bne_iff_ne.2 he
      have HP := Lib.hid (put_row HTT.out he)
      go_wp2_with fail
      go_ret2
      exact ⟨_, by rw [HP.out.1]; rfl, by rw [HP.out.2]; exact own_nil _ _, HB2.out⟩
end Go.Proofs.Ythcaecinjmnlbab

/- CONTRACTS OF impostlaw11's few, table, row, line. -/
namespace Go.Proofs.Ythcaecinjmnlbab
open Go.RowKit
open Vt (Rt)
open Go.Sort (grow)

set_option maxHeartbeats 1000000 in
theorem few_any (rs : List Rt) (ls : List Ln.T) (ao bo : Option Addr) (n ca m cb : Nat) (w : World) (hR : Rts w ao n ca rs) (hL : Ln.Ls w bo m cb ls) :
    Calls Try.prog 4 #[.slice ao n ca, .slice bo m cb] w fun e w' => (∃ n' m', e = .returned (.tuple #[.slice ao n' ca, .slice bo m' cb]) ∧ Rts w ao n' ca (rs.take 30) ∧ n' ≤ 30 ∧ Ln.Ls w bo m' cb (ls.take 20) ∧ m' ≤ 20) ∧ w' = w := by
  have hf1 := hR.fits
  have hc1 := hR.reach
  have hf2 := hL.fits
  have hc2 := hL.reach
  obtain ⟨n', hn', hn30, hs1, hT1⟩ : ∃ n', (30 < n → n' = 30) ∧ (¬ 30 < n → n' = n) ∧ (30 < n → ∀ u, (Instr.slice 22 (.slice ao n ca) none (some (.int .i64 ((30 : Nat) : Int))) none).run Try.prog u = .ok (.slice ao 30 ca) u) ∧ (Rts w ao n' ca (rs.take 30) ∧ n' ≤ 30) := by
    by_cases h : 30 < n
    · obtain ⟨hs, hT⟩ := rts_to hR 30 (by omega)
      exact ⟨30, fun _ => rfl, fun k => absurd h k, fun _ => hs, hT, Nat.le_refl _⟩
    · refine ⟨n, fun k => absurd k h, fun _ => rfl, fun k => absurd k h, ?_, by omega⟩
      rw [List.take_of_length_le (by have := hR.len; omega)]
      exact hR
  obtain ⟨m', hm', hm20, hs2, hT2⟩ : ∃ m', (20 < m → m' = 20) ∧ (¬ 20 < m → m' = m) ∧ (20 < m → ∀ u, (Instr.slice 25 (.slice bo m cb) none (some (.int .i64 ((20 : Nat) : Int))) none).run Try.prog u = .ok (.slice bo 20 cb) u) ∧ (Ln.Ls w bo m' cb (ls.take 20) ∧ m' ≤ 20) := by
    by_cases h : 20 < m
    · obtain ⟨hs, hT⟩ := hL.to 20 (by omega)
      exact ⟨20, fun _ => rfl, fun k => absurd h k, fun _ => hs, hT, Nat.le_refl _⟩
    · refine ⟨m, fun k => absurd k h, fun _ => rfl, fun k => absurd k h, ?_, by omega⟩
      rw [List.take_of_length_le (by have := hL.len; omega)]
      exact hL
  have HT1 := Lib.hid hT1
  have HT2 := Lib.hid hT2
  clear hT1 hT2 hR hL
  by_cases h1 : 30 < n
  · have e1 := hn' h1
    have r1 := hs1 h1
    subst e1
    by_cases h2 : 20 < m
    · have e2 := hm' h2
      have r2 := hs2 h2
      subst e2
      clear hn' hn30 hs1 hm' hm20 hs2
      go_enter Try.func4, Try.ntmps4
      go_wp2
      go_ret2
      exact ⟨⟨30, 20, rfl, HT1.out.1, HT1.out.2, HT2.out.1, HT2.out.2⟩, rfl⟩
    · have e2 := hm20 h2
      subst e2
      clear hn' hn30 hs1 hm' hm20 hs2
      go_enter Try.func4, Try.ntmps4
      go_wp2
      go_ret2
      exact ⟨⟨30, m', rfl, HT1.out.1, HT1.out.2, HT2.out.1, HT2.out.2⟩, rfl⟩
  · have e1 := hn30 h1
    subst e1
    by_cases h2 : 20 < m
    · have e2 := hm' h2
      have r2 := hs2 h2
      subst e2
      clear hn' hn30 hs1 hm' hm20 hs2
      go_enter Try.func4, Try.ntmps4
      go_wp2
      go_ret2
      exact ⟨⟨n', 20, rfl, HT1.out.1, HT1.out.2, HT2.out.1, HT2.out.2⟩, rfl⟩
    · have e2 := hm20 h2
      subst e2
      clear hn' hn30 hs1 hm' hm20 hs2
      go_enter Try.func4, Try.ntmps4
      go_wp2
      go_ret2
      exact ⟨⟨n', m', rfl, HT1.out.1, HT1.out.2, HT2.out.1, HT2.out.2⟩, rfl⟩
theorem row_any (c : ByteArray) (y m bp : Int) (w0 w : World) (hw : Below w0.heap.size w0 w) :
    Calls Try.prog 16 #[.string c, .int .i64 y, .int .i64 m, .int .i64 bp] w fun e w' => e = .returned (rowV ⟨c, y, m, 1, bp⟩) ∧ Below w0.heap.size w0 w' := by
  have HW := Lib.hid hw
  clear hw
  unfold rowV
  go_enter Try.func16, Try.ntmps16
  go_wp2
  exact bodyPost_ret (v := rowV ⟨c, y, m, 1, bp⟩) (by simp [results, rowV, Try.results16, go_sem]) rfl ⟨rfl, below_box HW.out _⟩
theorem line_any (n p : Int) (c : ByteArray) (w0 w : World) (hw : Below w0.heap.size w0 w) :
    Calls Try.prog 17 #[.int .i64 n, .int .i64 p, .string c] w fun e w' => e = .returned (Ln.val ⟨⟨#[]⟩, c, n, p⟩) ∧ Below w0.heap.size w0 w' := by
  have HW := Lib.hid hw
  clear hw
  unfold Ln.val
  go_enter Try.func17, Try.ntmps17
  go_wp2
  exact bodyPost_ret (v := Ln.val ⟨⟨#[]⟩, c, n, p⟩) (by simp [results, Ln.val, Try.results17, go_sem]) rfl ⟨rfl, below_box HW.out _⟩
theorem tab_step {rs : List Rt} {k : Nat} (h : k < rs.length) : Vt.tab [] (rs.take (k + 1)) = if Vt.putE (Vt.tab [] (rs.take k)) rs[k] = 0 then Vt.putL (Vt.tab [] (rs.take k)) rs[k] else Vt.tab [] (rs.take k) := by
  rw [List.take_succ_eq_append_getElem h, Vt.tab_snoc]
theorem tab_short {rs : List Rt} (h : ∀ r ∈ rs, Short r) (k : Nat) : ∀ r ∈ Vt.tab [] (rs.take k), Short r := by
  intro r hr
  rcases Vt.tab_mem _ _ r hr with hr | hr
  · cases hr
  · exact h r (List.mem_of_mem_take hr)
set_option maxHeartbeats 2000000 in
theorem table_any (rs : List Rt) (ao : Option Addr) (n cap : Nat) (w : World) (hR : Rts w ao n cap rs) :
    Calls Try.prog 6 #[.slice ao n cap] w fun e w' => ∃ v, e = .returned v ∧ OwnR w' w.heap.size v (Vt.tab [] (rs.take 30)) ∧ Below w.heap.size w w' := by
  have HR := Lib.hid hR
  have HN := Lib.hid hR.len
  have hfit := hR.fits
  have hcap := hR.reach
  clear hR
  go_enter Try.func6, Try.ntmps6
  go_wp2
  go_loopw [3, 4, 5, 6] (fun t i _ _ wr => ∃ (k : Nat) (ta : Option Addr) (tn tc : Nat), k ≤ n ∧ k ≤ 30 ∧ i = .int .i64 k ∧ t = .slice ta tn tc ∧ Hid (OwnR wr w.heap.size (.slice ta tn tc) (Vt.tab [] (rs.take k))) ∧ Hid (Below w.heap.size w wr)) (fun _ i _ _ _ => n - (intOf i).toNat)
  case atStart => exact ⟨0, none, 0, 0, by omega, by omega, rfl, rfl, Lib.hid (own_nil _ _), Lib.hid (Below.refl _ _)⟩
  case round =>
    obtain ⟨k, ta, tn, tc, hk, hk4, rfl, rfl, HO, HB⟩ := hrel
    by_cases hlt : k < n
    · by_cases h30 : k < 30
      · obtain ⟨b, off, rfl⟩ := HR.out.at (by omega)
        have hkr : k < rs.length := HN.out ▸ hlt
        obtain ⟨r, hr⟩ : ∃ r, rs[k] = r := ⟨_, rfl⟩
        have hrow := (HR.out.row k hkr).below HB.out
        have HSt := Lib.hid (tab_step hkr)
        rw [hr] at hrow HSt
        have HSh := Lib.hid (HR.out.short r (hr ▸ List.getElem_mem hkr))
        clear hr
        obtain ⟨g0, g1, g2, g3, g4⟩ := hrow
        obtain ⟨ta', tc', e, hT, _⟩ := own_rts HO.out (tab_short HR.out.short k)
        injection e with e1 e2 e3
        subst e1 e3
        have HT := Lib.hid (e2 ▸ hT)
        clear hT e2
        go_wp2_with fail
        refine (vat_put _ _ _ _ r _ HT.out HSh.out).mono ?_
        rintro e w1 ⟨v, rfl, o1, b1⟩
        obtain ⟨va, vc, rfl, _, _⟩ := own_rts o1 (fun a ha => by
          rcases Vt.putR_mem ha with rfl | ha
          · exact HSh.out
          · exact tab_short HR.out.short k a ha)
        have HO1 := Lib.hid (own_mono o1 HB.out.size)
        have HO2 := Lib.hid b1
        have HB1 := Lib.hid (bchain HB.out b1)
        clear o1 b1
        by_cases he : Vt.putE (Vt.tab [] (rs.take k)) r = 0
        · rw [he]
          rw [if_pos he] at HSt
          have HQ : Hid (Vt.putR (Vt.tab [] (rs.take k)) r = Vt.putL (Vt.tab [] (rs.take k)) r) := by
            show _ = _
            unfold Vt.putR
            rw [if_pos he]
          clear he
          generalize (Vt.putR (Vt.tab [] (rs.take k)) r).length = vl at *
          go_wp2_with fail
          go_roundw
          case rel => exact ⟨k + 1, va, vl, vc, by omega, by omega, by go_num, rfl, Lib.hid (by rw [HSt.out, ← HQ.out]; exact HO1.out), HB1⟩
          case measure => simp [intOf]; omega
        · obtain ⟨x, hx⟩ : ∃ x, Vt.putE (Vt.tab [] (rs.take k)) r = x := ⟨_, rfl⟩
          rw [if_neg he] at HSt
          rw [hx] at he
          rw [hx]
          have hx' : (x == 0) = false := beq_eq_false_iff_ne.2 he
          clear hx he
          go_wp2_with fail
          go_roundw
          case rel => exact ⟨k + 1, ta, tn, tc, by omega, by omega, by go_num, rfl, Lib.hid (by rw [HSt.out]; exact own_below HO.out HO2.out), HB1⟩
          case measure => simp [intOf]; omega
      · obtain rfl : k = 30 := by omega
        go_wp2_with fail
        go_ret
        exact ⟨_, rfl, HO.out, HB.out⟩
    · obtain rfl : k = n := by omega
      go_wp2_with fail
      go_ret
      refine ⟨_, rfl, ?_, HB.out⟩
      have h := HO.out
      rw [List.take_of_length_le (Nat.le_of_eq HN.out.symm)] at h
      rw [List.take_of_length_le (by have := HN.out; omega)]
      exact h
end Go.Proofs.Ythcaecinjmnlbab
