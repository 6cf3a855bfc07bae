/- MERGED: LnK, LnS, LnA, LnM, LnB, LnR, CmK, CmS, CmW, LwF. (By mg.py.) -/
import Derived.Test.YtndfhnaafaijcaaMGa
import Derived.Maps.AppendAt
import Derived.Laws.AppendOwnNone
import Derived.Laws.Rows
import Derived.RegionTactic
import Derived.Laws.CopyOwn
import Derived.Laws.MakeOwn
import Derived.Lib.QuietBelow
import Derived.Deep.MidRow
/- api.Line: A ROW AS IT IS HANDED OVER, AND IN A BLOCK OF ITS OWN. (By genrows.py.) -/
namespace Go.Proofs.Ytndfhnaafaijcaa.Ln
open Go.RowKit
open Mem

structure T where
  text : ByteArray
  category : ByteArray
  count : Int
  price : Int
/-- a row as it is handed over -/
def val (r : T) : Value := .agg #[.string r.text, .string r.category, .int .i64 r.count, .int .i64 r.price]
/-- its numbers are numbers of 64 bits, its texts are not too long for any memory -/
def Short (r : T) : Prop := r.text.size ≤ 140737488355328 ∧ r.category.size ≤ 140737488355328 ∧ Fit r.count ∧ Fit r.price
/-- a row's own place -/
def box (w : World) (r : T) : World := w.alloc (.cells #[.string r.text, .string r.category, .int .i64 r.count, .int .i64 r.price] 56)
/-- a row lies in a block of its own -/
def C (u : World) (b : Nat) (r : T) : Prop :=
  u.cell? ⟨b, 0, none⟩ = some (.string r.text) ∧ u.cell? ⟨b, 1, none⟩ = some (.string r.category) ∧ u.cell? ⟨b, 2, none⟩ = some (.int .i64 r.count) ∧ u.cell? ⟨b, 3, none⟩ = some (.int .i64 r.price)
theorem C.below {u v : World} {b : Nat} {r : T} (h : C u b r) (k : Below u.heap.size u v) : C v b r := by
  obtain ⟨h0, h1, h2, h3⟩ := h
  have hl := cell_lt h0
  unfold C
  rw [(bcell k).1 _ _ hl, (bcell k).1 _ _ hl, (bcell k).1 _ _ hl, (bcell k).1 _ _ hl]
  exact ⟨h0, h1, h2, h3⟩
theorem c_box (w : World) (r : T) : C (box w r) w.heap.size r := by
  unfold box C
  simp [go_sem]
theorem box_size (w : World) (r : T) : (box w r).heap.size = w.heap.size + 1 := by
  unfold box
  simp
theorem below_own (w : World) (r : T) : Below w.heap.size w (box w r) := (Below.refl _ _).alloc (Nat.le_refl _) _
theorem boxed1 (w : World) (a : T) : ∃ W, w.alloc (.cells #[.string a.text, .string a.category, .int .i64 a.count, .int .i64 a.price] 56) = W ∧ Below w.heap.size w W ∧ C W w.heap.size a :=
  ⟨_, rfl, below_own w a, c_box w a⟩
theorem boxed2 (w : World) (a b : T) : ∃ W, (w.alloc (.cells #[.string a.text, .string a.category, .int .i64 a.count, .int .i64 a.price] 56)).alloc (.cells #[.string b.text, .string b.category, .int .i64 b.count, .int .i64 b.price] 56) = W ∧
    Below w.heap.size w W ∧ C W w.heap.size a ∧ C W (w.heap.size + 1) b := by
  refine ⟨_, rfl, ((below_own w a).trans ((below_own (box w a) b).mono (below_own w a).size)), (c_box w a).below (below_own _ b), ?_⟩
  have h := c_box (box w a) b
  rw [box_size] at h
  exact h
end Go.Proofs.Ytndfhnaafaijcaa.Ln

/- api.Line: ROWS THAT LIE ONE BEHIND THE OTHER, AND PIECES OF THEM. (By genrows.py.) -/
namespace Go.Proofs.Ytndfhnaafaijcaa.Ln
open Go.RowKit
open Mem

/-- a row lies at a place of a block -/
structure At (u : World) (b o : Nat) (r : T) : Prop where
  c0 : u.cell? ⟨b, o, none⟩ = some (.string r.text)
  c1 : u.cell? ⟨b, o + 1, none⟩ = some (.string r.category)
  c2 : u.cell? ⟨b, o + 2, none⟩ = some (.int .i64 r.count)
  c3 : u.cell? ⟨b, o + 3, none⟩ = some (.int .i64 r.price)
theorem At.below {u v : World} {b o : Nat} {r : T} (h : At u b o r) (k : Below u.heap.size u v) : At v b o r := by
  have hl := cell_lt h.c0
  exact ⟨by rw [(bcell k).1 _ _ hl]; exact h.c0, by rw [(bcell k).1 _ _ hl]; exact h.c1, by rw [(bcell k).1 _ _ hl]; exact h.c2, by rw [(bcell k).1 _ _ hl]; exact h.c3⟩
/-- rows lie at an address -/
def Seg (w : World) (ao : Option Addr) (rs : List T) : Prop := rs = [] ∨ ∃ b off, ao = some ⟨b, off, none⟩ ∧ ∀ (k : Nat) (hk : k < rs.length), At w b (off + k * 4) rs[k]
theorem Seg.below {w v : World} {ao : Option Addr} {rs : List T} (h : Seg w ao rs) (k : Below w.heap.size w v) : Seg v ao rs := by
  rcases h with h | ⟨b, off, e, h⟩
  · exact .inl h
  · exact .inr ⟨b, off, e, fun i hi => (h i hi).below k⟩
/-- a slice of rows, as a contract takes it -/
structure Ls (w : World) (ao : Option Addr) (n cap : Nat) (rs : List T) : Prop where
  len : n = rs.length
  fits : n ≤ cap
  reach : cap ≤ 9223372036854775807
  nil : ao = none → cap = 0
  seg : Seg w ao rs
  short : ∀ r ∈ rs, Short r
theorem Ls.below {w v : World} {ao : Option Addr} {n cap : Nat} {rs : List T} (h : Ls w ao n cap rs) (k : Below w.heap.size w v) : Ls v ao n cap rs :=
  ⟨h.len, h.fits, h.reach, h.nil, h.seg.below k, h.short⟩
theorem Ls.at {w : World} {ao : Option Addr} {n cap : Nat} {rs : List T} (h : Ls w ao n cap rs) (hn : 0 < n) : ∃ b off, ao = some ⟨b, off, none⟩ := by
  rcases h.seg with e | ⟨b, off, e, _⟩
  · have := h.len
    rw [e] at this
    simp at this
    omega
  · exact ⟨b, off, e⟩
theorem Ls.row {w : World} {b off n cap : Nat} {rs : List T} (h : Ls w (some ⟨b, off, none⟩) n cap rs) (k : Nat) (hk : k < rs.length) : At w b (off + k * 4) rs[k] := by
  rcases h.seg with e | ⟨b', off', e, hs⟩
  · subst e
    simp at hk
  · cases e
    exact hs k hk
theorem ls_nil (w : World) : Ls w none 0 0 [] := ⟨rfl, Nat.le_refl _, by omega, fun _ => rfl, .inl rfl, by simp⟩
theorem und : Try.prog.underlying 33 = some (.slice (Try.prog.elem 33)) := by kernel_rfl
theorem size (u : World) : (sizeOf (Try.prog.elem 33)).run Try.prog u = .ok 4 u := by
  have h : (Try.prog.info? (Try.prog.elem 33)).map (·.size) = some 4 := by kernel_rfl
  obtain ⟨i, hi, hs⟩ := Option.map_eq_some_iff.1 h
  simp [sizeOf, typeInfo, hi, hs]
theorem Ls.to {w : World} {ao : Option Addr} {n cap : Nat} {rs : List T} (h : Ls w ao n cap rs) (k : Nat) (hk : k ≤ n) :
    (∀ u, (Instr.slice 33 (.slice ao n cap) none (some (.int .i64 (k : Int))) none).run Try.prog u = .ok (.slice ao k cap) u) ∧ Ls w ao k cap (rs.take k) := by
  have hl := h.len
  have hf := h.fits
  refine ⟨fun u => ?_, ⟨by rw [List.length_take]; omega, by omega, h.reach, h.nil, ?_, fun r hr => h.short r (List.mem_of_mem_take hr)⟩⟩
  · rw [run_slice_h u 33 ao n cap und .i64 k (by omega) (by omega), size]
    have e : Option.map (fun x : Addr => x.add 0) ao = ao := by cases ao <;> simp [Addr.add]
    simp [Result.andThen, sliced, e]
  · rcases h.seg with e | ⟨b, off, e, hc⟩
    · exact .inl (by rw [e]; simp)
    · refine .inr ⟨b, off, e, fun j hj => ?_⟩
      rw [List.length_take] at hj
      rw [List.getElem_take]
      exact hc j (by omega)
theorem Ls.from {w : World} {ao : Option Addr} {n cap : Nat} {rs : List T} (h : Ls w ao n cap rs) (k : Nat) (hk : k ≤ n) :
    ∃ ao2 cap2, (∀ u, (Instr.slice 33 (.slice ao n cap) (some (.int .i64 (k : Int))) none none).run Try.prog u = .ok (.slice ao2 (n - k) cap2) u) ∧ Ls w ao2 (n - k) cap2 (rs.drop k) := by
  have hl := h.len
  have hf := h.fits
  refine ⟨if cap = k then ao else ao.map (·.add (k * 4)), cap - k, fun u => ?_, ⟨by rw [List.length_drop]; omega, by omega, by have := h.reach; omega, ?_, ?_, fun r hr => h.short r (List.mem_of_mem_drop hr)⟩⟩
  · rw [run_slice_l u 33 ao n cap und .i64 k (by omega) (by omega), size]
    simp [Result.andThen, sliced]
  · by_cases e : cap = k
    · omega
    · rw [if_neg e]
      cases ao with
      | none => have := h.nil rfl; omega
      | some a => exact fun k => by cases k
  · by_cases hkn : k = n
    · exact .inl (List.drop_eq_nil_of_le (by omega))
    · rcases h.seg with e | ⟨b, off, rfl, hc⟩
      · exact .inl (by rw [e]; simp)
      · refine .inr ⟨b, off + k * 4, ?_, fun j hj => ?_⟩
        · rw [if_neg (by omega)]
          unfold Addr.add
          simp only [Option.map_some, Option.some.injEq]
          split
          · rename_i e
            rw [e]
            rfl
          · rfl
        · rw [List.length_drop] at hj
          rw [List.getElem_drop, show off + k * 4 + j * 4 = off + (k + j) * 4 by omega]
          exact hc (k + j) (by omega)
end Go.Proofs.Ytndfhnaafaijcaa.Ln

/- api.Line: append(own, rows...): A LAW FOR THE WALK, at a plain list and at a step of a region that draws its order. (By genrows.py.) -/
namespace Go.Proofs.Ytndfhnaafaijcaa.Ln
open Go.RowKit
open Mem

/-- a row's cells -/
def rv (r : T) : List Value := [.string r.text, .string r.category, .int .i64 r.count, .int .i64 r.price]
theorem rv_len (r : T) : (rv r).length = 4 := rfl
theorem flat_len : ∀ rs : List T, (rs.flatMap rv).length = rs.length * 4
  | [] => rfl
  | r :: l => by
    rw [List.flatMap_cons, List.length_append, rv_len, flat_len l, List.length_cons]
    omega
theorem flat_at : ∀ (rs : List T) (k p : Nat) (hk : k < rs.length), p < 4 → (rs.flatMap rv)[k * 4 + p]? = (rv rs[k])[p]?
  | r :: l, 0, p, _, hp => by
    rw [List.flatMap_cons, List.getElem?_append_left (by rw [rv_len]; omega), Nat.zero_mul, Nat.zero_add]
    rfl
  | r :: l, k + 1, p, hk, hp => by
    rw [List.flatMap_cons, List.getElem?_append_right (by rw [rv_len]; omega), rv_len, show (k + 1) * 4 + p - 4 = k * 4 + p by omega]
    exact flat_at l k p (by simpa using hk) hp
theorem one_cell (rs : List T) : ∀ v ∈ rs.flatMap rv, v.oneCell' = true := by
  intro v hv
  obtain ⟨r, _, h⟩ := List.mem_flatMap.1 hv
  unfold rv at h
  simp only [List.mem_cons, List.not_mem_nil, or_false] at h
  rcases h with rfl | rfl | rfl | rfl <;> rfl
theorem news_of {w : World} {b off : Nat} {rs : List T} (h : ∀ (k : Nat) (hk : k < rs.length), At w b (off + k * 4) rs[k]) (j : Nat) (u : Value) (hu : (rs.flatMap rv)[j]? = some u) : w.cell? ((⟨b, off, none⟩ : Addr).add j) = some u := by
  have hj : j < (rs.flatMap rv).length := by
    obtain ⟨hj, _⟩ := List.getElem?_eq_some_iff.1 hu
    exact hj
  rw [flat_len] at hj
  obtain ⟨k, p, rfl, hp⟩ : ∃ k p, j = k * 4 + p ∧ p < 4 := ⟨j / 4, j % 4, by omega, by omega⟩
  have hk : k < rs.length := by omega
  rw [flat_at rs k p hk hp] at hu
  have ha : (⟨b, off, none⟩ : Addr).add (k * 4 + p) = ⟨b, off + k * 4 + p, none⟩ := by
    unfold Addr.add
    split
    · rename_i e
      simp only [Addr.mk.injEq, true_and, and_true]
      omega
    · simp only [Addr.mk.injEq, true_and, and_true]
      omega
  rw [ha]
  obtain ⟨c0, c1, c2, c3⟩ := h k hk
  have hp' : p = 0 ∨ p = 1 ∨ p = 2 ∨ p = 3 := by omega
  unfold rv at hu
  rcases hp' with rfl | rfl | rfl | rfl
  all_goals simp at hu
  all_goals subst hu
  · exact c0
  · exact c1
  · exact c2
  · exact c3
/-- rows of the call's own -/
def Own (w : World) (B : Nat) (v : Value) (xs : List T) : Prop := w.ownsRow B 56 4 v xs.length (xs.flatMap rv)
theorem own_nil (w : World) (B : Nat) : Own w B (.slice none 0 0) [] := ⟨rfl, .inl ⟨rfl, rfl⟩⟩
theorem own_ls {w : World} {B : Nat} {v : Value} {xs : List T} (h : Own w B v xs) (hs : ∀ r ∈ xs, Short r) : ∃ ao cap, v = .slice ao xs.length cap ∧ Ls w ao xs.length cap xs ∧ (∀ ad, ao = some ad → ∃ g, ad = ⟨g, 0, none⟩ ∧ B ≤ g) := by
  rcases h.2 with ⟨h', h2⟩ | ⟨g, cap, cur, h', hb, hg, hnc, hcm, hcs, htake⟩
  · have e : xs = [] := List.length_eq_zero_iff.1 h2
    subst e
    exact ⟨none, 0, h', ⟨rfl, Nat.le_refl _, by omega, fun _ => rfl, .inl rfl, hs⟩, fun ad k => by cases k⟩
  · refine ⟨some ⟨g, 0, none⟩, cap, h', ⟨rfl, hnc, hcm, fun k => (by cases k), .inr ⟨g, 0, rfl, fun k hk => ?_⟩, hs⟩, fun ad k => by cases k; exact ⟨g, rfl, hb⟩⟩
    have hcell : ∀ p, p < 4 → w.cell? ⟨g, 0 + k * 4 + p, none⟩ = (rv xs[k])[p]? := by
      intro p hp
      rw [Nat.zero_add, cell_of_row w g _ _ _ _ hg, ← flat_at xs k p hk hp, ← htake, List.getElem?_take_of_lt (by omega)]
      simp
    exact ⟨hcell 0 (by omega), hcell 1 (by omega), hcell 2 (by omega), hcell 3 (by omega)⟩
/-- the zero row -/
def zero : T := ⟨.empty, .empty, 0, 0⟩
def zeroV : Value := .agg #[.string .empty, .string .empty, .int .i64 0, .int .i64 0]
theorem info : (Try.prog.info? 56).map (fun i => (i.zero, i.size, i.bytes)) = some (some zeroV, 4, 48) := by kernel_rfl
theorem wp_append {o : Oper} {a : Act} {K : Act → World → Prop} {Q : Exit → Act → World → Prop} (w : World) (s x : Operand)
    (ho : o.op = .call { callee := .builtin .append, args := #[s, x], argTypes := #[33, 33] })
    (B : Nat) (v : Value) (xs : List T) (hs : a.eval s = v) (hown : Own w B v xs)
    (ao : Option Addr) (n cap : Nat) (zs : List T) (hx : a.eval x = .slice ao n cap) (hn : n = zs.length) (hnil : ao = none → cap = 0) (hsrc : Seg w ao zs) (hl : (xs.length + n) * 48 ≤ 140737488355328) (hb : B ≤ w.heap.size)
    (h : ∀ v' w1, Own w1 B v' (xs ++ zs) → w.grownBy w1 v.ownBlock → (v'.ownBlock = v.ownBlock ∨ v'.ownBlock = some w.heap.size) → K (a.put o.dst v') w1) : o.wp Try.prog a w K Q := by
  have hzs : zeroV.cells.size = 4 := rfl
  obtain ⟨i0, hi, hz0, hz1, hz2⟩ := info_parts info
  have hmx : maxLen = 9223372036854775807 := rfl
  have empty : zs = [] → n = 0 → Own w B v (xs ++ zs) := by
    intro e _
    rw [e, List.append_nil]
    exact hown
  cases ao with
  | none =>
    obtain rfl : cap = 0 := hnil rfl
    rcases hsrc with e | ⟨b, off, e, _⟩
    · obtain rfl : n = 0 := by rw [hn, e]; rfl
      have hrun := run_append_owned_none (P := Try.prog) (w := w) B 33 o.type 56 i0 4 Try.underlying33 hi v _ _ hown
      unfold Oper.wp
      simp [execOp, ho, resolve, invoke, builtin, hs, hx, hrun, Result.andThen]
      exact h v w (empty e rfl) ⟨rfl, rfl, rfl, Nat.le_refl _, fun _ _ _ => rfl⟩ (.inl rfl)
    · cases e
  | some ad =>
    obtain ⟨v', w', hr, h2, h3, _, h5⟩ := run_append_own_at (P := Try.prog) w B 33 o.type 56 i0 zeroV 4 48 Try.underlying33 hi hz0 hz1 hz2 hzs (by omega) v xs.length (xs.flatMap rv) hown ad n cap (zs.flatMap rv) (by rw [flat_len, hn]) (by
      rcases hsrc with e | ⟨b, off, e, hc⟩
      · rw [e]
        intro j u hu
        simp at hu
      · cases e
        exact fun j u hu => news_of hc j u hu) (one_cell zs) (by omega) hl hb
    unfold Oper.wp execOp
    simp only [ho, resolve, invoke, builtin, Sem.run_bind, Sem.run_pure, Result.andThen_ok, List.map_toArray, List.map_cons, List.map_nil, hs, hx, hr]
    refine h v' w' ?_ h3 h5
    unfold Own
    rw [List.flatMap_append, List.length_append, ← hn]
    exact h2
theorem wpList_append {ops : Array Oper} {rest : List Oper} {o : Oper} {a : Act} {Q : Exit → Act → World → Prop} (w : World) (hgd : o.guard = none) (s x : Operand)
    (ho : o.op = .call { callee := .builtin .append, args := #[s, x], argTypes := #[33, 33] })
    (B : Nat) (v : Value) (xs : List T) (hs : a.eval s = v) (hown : Own w B v xs)
    (ao : Option Addr) (n cap : Nat) (zs : List T) (hx : a.eval x = .slice ao n cap) (hn : n = zs.length) (hnil : ao = none → cap = 0) (hsrc : Seg w ao zs) (hl : (xs.length + n) * 48 ≤ 140737488355328) (hb : B ≤ w.heap.size)
    (h : ∀ v' w1, Own w1 B v' (xs ++ zs) → w.grownBy w1 v.ownBlock → (v'.ownBlock = v.ownBlock ∨ v'.ownBlock = some w.heap.size) → wpList Try.prog ops Q rest (a.put o.dst v') w1) : wpList Try.prog ops Q (o :: rest) a w :=
  wpList_plain hgd fun _ hK => wp_append w s x ho B v xs hs hown ao n cap zs hx hn hnil hsrc hl hb fun v' w1 h1 h2 h3 => hK _ _ (h v' w1 h1 h2 h3)
theorem own_ge {w : World} {B : Nat} {v : Value} {xs : List T} (h : Own w B v xs) : ∀ k, v.ownBlock = some k → B ≤ k := by
  intro k hk
  rcases h.2 with ⟨h', _⟩ | ⟨g, cap, cur, h', hb, _⟩
  · rw [h'] at hk
    cases hk
  · rw [h'] at hk
    simp only [Value.ownBlock, Option.some.injEq] at hk
    omega
theorem own_mono {w : World} {B C : Nat} {v : Value} {xs : List T} (h : Own w B v xs) (hc : C ≤ B) : Own w C v xs := by
  obtain ⟨h1, h2⟩ := h
  refine ⟨h1, ?_⟩
  rcases h2 with h2 | ⟨g, cap, cur, h', hb, h3⟩
  · exact .inl h2
  · exact .inr ⟨g, cap, cur, h', by omega, h3⟩
theorem own_empty {X : World} {B g : Nat} (hB : B ≤ g) (hg : X.heap[g]? = some (.cells #[] 56 (0, 0))) : Own X B (.slice (some ⟨g, 0, none⟩) 0 0) [] :=
  ⟨rfl, .inr ⟨g, 0, #[], rfl, hB, hg, Nat.le_refl _, Nat.zero_le _, rfl, rfl⟩⟩
theorem own_alloc {w : World} {B : Nat} {v : Value} {xs : List T} (h : Own w B v xs) (o : Obj) : Own (w.alloc o) B v xs := World.ownsRow.alloc h o
theorem own_drew {w : World} {B : Nat} {v : Value} {M : List T} (h : Own w B v M) : Own w.drew B v M := h
theorem own_below {w u : World} {B : Nat} {v : Value} {xs : List T} (h : Own w B v xs) (k : Below w.heap.size w u) : Own u B v xs := by
  obtain ⟨h1, h2⟩ := h
  refine ⟨h1, ?_⟩
  rcases h2 with h2 | ⟨g, cap, cur, h', hb, hg, h3⟩
  · exact .inl h2
  · refine .inr ⟨g, cap, cur, h', hb, ?_, h3⟩
    have hl : g < w.heap.size := by
      obtain ⟨hl, _⟩ := Array.getElem?_eq_some_iff.1 hg
      exact hl
    rw [k.block g hl]
    exact hg
/-- a row's block -/
def block (r : T) : Obj := .cells #[.string r.text, .string r.category, .int .i64 r.count, .int .i64 r.price] 56 (0, 0)
theorem seg_block {X : World} {g : Nat} {r : T} (h : X.heap[g]? = some (block r)) : Seg X (some ⟨g, 0, none⟩) [r] := by
  refine .inr ⟨g, 0, rfl, fun k hk => ?_⟩
  obtain rfl : k = 0 := by simpa using hk
  unfold block at h
  refine ⟨?_, ?_, ?_, ?_⟩
  all_goals rw [cell_of_row X g _ _ _ _ h]
  all_goals rfl
theorem step_append {ops : Array Oper} {o : Oper} {a : Act} {K : Act → World → Prop} {Q : Exit → Act → World → Prop} {E : Prop} (X x : World) (hX : Below x.heap.size x X) (hgd : o.guard = none) (s t : Operand)
    (ho : o.op = .call { callee := .builtin .append, args := #[s, t], argTypes := #[33, 33] })
    (v : Value) (xs : List T) (hs : a.eval s = v) (hown : Own X x.heap.size v xs)
    (ao : Option Addr) (n cap : Nat) (zs : List T) (ht : a.eval t = .slice ao n cap) (hn : n = zs.length) (hnil : ao = none → cap = 0) (hsrc : Seg X ao zs) (hl : xs.length + n ≤ 100000)
    (h : ∀ v' w1, Own w1 x.heap.size v' (xs ++ zs) → X.grownBy w1 v.ownBlock → Below x.heap.size x w1 → K (a.put o.dst v') w1) :
    if Region.wanted o (yielded ops a.tmps) = true then Oper.wp Try.prog o a X K Q else E := by
  have hw : Region.wanted o (yielded ops a.tmps) = true := by simp [Region.wanted, hgd]
  rw [if_pos hw]
  exact wp_append X s t ho x.heap.size v xs hs hown ao n cap zs ht hn hnil hsrc (by omega) hX.size fun v' w1 h1 h2 _ => h v' w1 h1 h2 (hX.grown h2 hX.size (own_ge hown))
end Go.Proofs.Ytndfhnaafaijcaa.Ln

/- api.Line: make, copy, store: A WHOLE BLOCK OF ROWS THAT MAY BE WRITTEN. (By genrows.py.) -/
namespace Go.Proofs.Ytndfhnaafaijcaa.Ln
open Go.RowKit
open Mem

/-- a whole block of rows, none of it frozen -/
def Block (w : World) (g : Nat) (ts : List T) : Prop := w.heap[g]? = some (.cells (ts.flatMap rv).toArray 56 (0, 0))
theorem Block.lt {w : World} {g : Nat} {ts : List T} (h : Block w g ts) : g < w.heap.size := by
  obtain ⟨hg, _⟩ := Array.getElem?_eq_some_iff.1 h
  exact hg
theorem Block.below {w u : World} {g : Nat} {ts : List T} (h : Block w g ts) (k : Below w.heap.size w u) : Block u g ts := (k.block g h.lt).trans h
theorem Block.row {w : World} {g : Nat} {ts : List T} (h : Block w g ts) (k : Nat) (hk : k < ts.length) : At w g (k * 4) ts[k] := by
  have hcell : ∀ p, p < 4 → w.cell? ⟨g, k * 4 + p, none⟩ = (rv ts[k])[p]? := by
    intro p hp
    rw [cell_of_row w g _ _ _ _ h, ← flat_at ts k p hk hp]
    simp
  exact ⟨hcell 0 (by omega), hcell 1 (by omega), hcell 2 (by omega), hcell 3 (by omega)⟩
theorem Block.frozen {w : World} {g : Nat} {ts : List T} (h : Block w g ts) (k : Nat) : w.frozen? ⟨g, k, none⟩ = false := frozen_of_row w g k _ _ h
theorem Block.ls {w : World} {g : Nat} {ts zs : List T} (h : Block w g (ts ++ zs)) (n cap : Nat) (hn : n = ts.length) (hc : n ≤ cap) (hm : cap ≤ 9223372036854775807) (hs : ∀ r ∈ ts, Short r) : Ls w (some ⟨g, 0, none⟩) n cap ts := by
  refine ⟨hn, hc, hm, (fun k => by cases k), .inr ⟨g, 0, rfl, fun k hk => ?_⟩, hs⟩
  have hr := h.row k (by rw [List.length_append]; omega)
  rw [List.getElem_append_left hk] at hr
  rw [Nat.zero_add]
  exact hr
def zeros (n : Nat) : Array Value := ((List.replicate n zero).flatMap rv).toArray
theorem sizeZ : (Try.prog.info? 56).map (·.size) = some 4 := by kernel_rfl
theorem made (n : Nat) : madeCells zeroV.cells (n * 4) = zeros n := by
  apply Array.ext_getElem?
  intro j
  by_cases hj : j < n * 4
  · obtain ⟨k, p, rfl, hp⟩ : ∃ k p, j = k * 4 + p ∧ p < 4 := ⟨j / 4, j % 4, by omega, by omega⟩
    have hk : k < n := by omega
    have hz : (zeros n)[k * 4 + p]? = (rv zero)[p]? := by
      unfold zeros
      rw [List.getElem?_toArray, flat_at (List.replicate n zero) k p (by simpa using hk) hp, List.getElem_replicate]
    rw [hz]
    have e : (k * 4 + p) % 4 = p := by omega
    have hp' : p = 0 ∨ p = 1 ∨ p = 2 ∨ p = 3 := by omega
    unfold madeCells
    rw [Array.getElem?_map, Array.getElem?_range, if_pos hj]
    simp only [Option.map_some]
    rw [show zeroV.cells.size = 4 from rfl, e]
    rcases hp' with rfl | rfl | rfl | rfl <;> rfl
  · rw [Array.getElem?_eq_none (by rw [size_madeCells]; omega), Array.getElem?_eq_none]
    unfold zeros
    rw [List.size_toArray, flat_len, List.length_replicate]
    omega
/-- make([]api.Line, n) -/
theorem make (n : Nat) (hn : n ≤ 100000) (u : World) : (Instr.makeSlice 33 (.int .i64 (n : Int)) (.int .i64 (n : Int))).run Try.prog u =
    .ok (.slice (some ⟨u.heap.size, 0, none⟩) n n) (u.alloc (.cells (zeros n) 56)) := by
  obtain ⟨i0, hi, hz0, hz1, hz2⟩ := info_parts info
  have h := run_make (P := Try.prog) u 33 56 i0 zeroV Try.underlying33 hi hz0 .i64 .i64 (n : Int) (n : Int) (by omega) (Int.le_refl _) (by rw [hz2]; omega) (by omega)
  rw [hz1, Int.toNat_natCast, made] at h
  exact h
theorem block_made (u : World) (n : Nat) : Block (u.alloc (.cells (zeros n) 56)) u.heap.size (List.replicate n zero) := heap_alloc_new u _
/-- copy(dst, src), dst a block of the call's own from its head on, no shorter than src -/
theorem copy (u : World) (g : Nat) (ts : List T) (dCap : Nat) (ao : Option Addr) (n cap : Nat) (rs : List T) (hb : Block u g (List.replicate n zero ++ ts)) (hn : n = rs.length) (hs : Seg u ao rs) :
    ∃ u', (Builtin.copy_ #[33, 33] 3 #[.slice (some ⟨g, 0, none⟩) (n + ts.length) dCap, .slice ao n cap]).run Try.prog u = .ok (goInt n) u' ∧ Block u' g (rs ++ ts) ∧ (∀ B w0, Below B w0 u → B ≤ g → Below B w0 u') ∧ u'.heap.size = u.heap.size := by
  obtain ⟨i0, hi, hiK⟩ := Option.map_eq_some_iff.1 sizeZ
  have hmin : Nat.min n (n + ts.length) = n := Nat.min_eq_left (by omega)
  rcases hs with e | ⟨b, off, rfl, hc⟩
  · subst e
    obtain rfl : n = 0 := hn
    refine ⟨u, ?_, by simpa using hb, fun _ _ h _ => h, rfl⟩
    have hl : ∀ (x : Addr), (loadCells x 0).run Try.prog u = .ok #[] u := fun x => by simpa using run_loadCells_list (P := Try.prog) u x [] (by simp)
    cases ao <;> simp [Builtin.copy_, run_underlying Try.underlying33, Builtin.lenOf, Builtin.firstCells, sizeOf, typeInfo, hi, storeCells, hl]
  · have hl := run_loadCells_list (P := Try.prog) u ⟨b, off, none⟩ (rs.flatMap rv) (fun j v hv => news_of hc j v hv)
    have hst := run_storeCells_at Try.prog g 0 56 (rs.flatMap rv) 0 _ u hb (by rw [List.size_toArray, flat_len, flat_len, List.length_append, List.length_replicate]; omega) (one_cell rs)
    have hlen : (rs.flatMap rv).length = n * 4 := by rw [flat_len, hn]
    have e : (((List.replicate n zero ++ ts).flatMap rv).toArray.toList.take (0 + 0) ++ rs.flatMap rv ++ ((List.replicate n zero ++ ts).flatMap rv).toArray.toList.drop (0 + 0 + (rs.flatMap rv).length)) = (rs ++ ts).flatMap rv := by
      rw [List.toList_toArray, List.take_zero, List.nil_append, Nat.zero_add, hlen, List.flatMap_append, List.flatMap_append, List.drop_left' (by rw [flat_len, List.length_replicate])]
    rw [e] at hst
    refine ⟨u.setRow g ((rs ++ ts).flatMap rv).toArray, ?_, setRow_heap u g _ _ 56 _ hb, fun B w0 h hB => below_setRow h hB _, by simp [World.setRow]⟩
    rw [hlen] at hl
    simp [Builtin.copy_, run_underlying Try.underlying33, Builtin.lenOf, Builtin.firstCells, sizeOf, typeInfo, hi, hiK, hmin, hl, hst]
theorem set_right {a : T} (X : List Value) (k p : Nat) (v : Value) : (rv a ++ X).set ((k + 1) * 4 + p) v = rv a ++ X.set (k * 4 + p) v := by
  rw [List.set_append_right _ _ (by rw [rv_len]; omega), rv_len, show (k + 1) * 4 + p - 4 = k * 4 + p by omega]
theorem flat_set : ∀ (ts : List T) (k : Nat) (r : T), k < ts.length → (ts.set k r).flatMap rv = (((((ts.flatMap rv).set (k * 4) (.string r.text)).set (k * 4 + 1) (.string r.category)).set (k * 4 + 2) (.int .i64 r.count)).set (k * 4 + 3) (.int .i64 r.price))
  | a :: l, 0, r, _ => rfl
  | a :: l, k + 1, r, h => by
    have ih := flat_set l k r (by simpa using h)
    have e0 := fun (X : List Value) (v : Value) => set_right (a := a) X k 0 v
    simp only [Nat.add_zero] at e0
    rw [List.set_cons_succ, List.flatMap_cons, ih, List.flatMap_cons, e0, set_right, set_right, set_right]
/-- a row stored -/
theorem Block.store {w : World} {g : Nat} {ts : List T} (h : Block w g ts) (k : Nat) (hk : k < ts.length) (r : T) :
    Block ((((w.setCell ⟨g, k * 4, none⟩ (.string r.text)).setCell ⟨g, k * 4 + 1, none⟩ (.string r.category)).setCell ⟨g, k * 4 + 2, none⟩ (.int .i64 r.count)).setCell ⟨g, k * 4 + 3, none⟩ (.int .i64 r.price)) g (ts.set k r) := by
  have h1 := heap_setCell_same _ g (k * 4) _ _ (.string r.text) h
  have h2 := heap_setCell_same _ g (k * 4 + 1) _ _ (.string r.category) h1
  have h3 := heap_setCell_same _ g (k * 4 + 2) _ _ (.int .i64 r.count) h2
  have h4 := heap_setCell_same _ g (k * 4 + 3) _ _ (.int .i64 r.price) h3
  unfold Block
  rw [h4, flat_set ts k r hk]
  simp only [List.setIfInBounds_toArray]
theorem below_store {B g : Nat} {w0 w : World} (h : Below B w0 w) (hg : B ≤ g) (k : Nat) (x0 x1 x2 x3 : Value) :
    Below B w0 ((((w.setCell ⟨g, k * 4, none⟩ x0).setCell ⟨g, k * 4 + 1, none⟩ x1).setCell ⟨g, k * 4 + 2, none⟩ x2).setCell ⟨g, k * 4 + 3, none⟩ x3) :=
  ((((h.setCell hg x0).setCell hg x1).setCell hg x2).setCell hg x3)
theorem own_store {w : World} {B g n cap : Nat} {M : List T} (h : Own w B (.slice (some ⟨g, 0, none⟩) n cap) M) (k : Nat) (hk : k < M.length) (r : T) :
    Own ((((w.setCell ⟨g, k * 4, none⟩ (.string r.text)).setCell ⟨g, k * 4 + 1, none⟩ (.string r.category)).setCell ⟨g, k * 4 + 2, none⟩ (.int .i64 r.count)).setCell ⟨g, k * 4 + 3, none⟩ (.int .i64 r.price)) B (.slice (some ⟨g, 0, none⟩) n cap) (M.set k r) := by
  rcases h.2 with ⟨h', _⟩ | ⟨g', cap', cur, h', hb, hg, hnc, hcm, hcs, htake⟩
  · cases h'
  · simp only [Value.slice.injEq, Option.some.injEq, Addr.mk.injEq, and_true] at h'
    obtain ⟨e1, e2, e3⟩ := h'
    subst e1 e3
    have h1 := heap_setCell_same _ g (k * 4) _ _ (.string r.text) hg
    have h2 := heap_setCell_same _ g (k * 4 + 1) _ _ (.string r.category) h1
    have h3 := heap_setCell_same _ g (k * 4 + 2) _ _ (.int .i64 r.count) h2
    have h4 := heap_setCell_same _ g (k * 4 + 3) _ _ (.int .i64 r.price) h3
    refine ⟨by rw [flat_len], .inr ⟨g, cap, _, by rw [List.length_set, e2], hb, h4, by rw [List.length_set]; exact hnc, hcm, by simpa using hcs, ?_⟩⟩
    rw [List.length_set, flat_set M k r hk]
    simp only [Array.toList_setIfInBounds]
    rw [← htake]
    simp only [List.take_set]
theorem own_at {w : World} {B g n cap : Nat} {M : List T} (h : Own w B (.slice (some ⟨g, 0, none⟩) n cap) M) (k : Nat) (hk : k < M.length) : At w g (k * 4) M[k] ∧ (∀ o, w.frozen? ⟨g, o, none⟩ = false) ∧ B ≤ g := by
  rcases h.2 with ⟨h', _⟩ | ⟨g', cap', cur, h', hb, hg, hnc, hcm, hcs, htake⟩
  · cases h'
  · simp only [Value.slice.injEq, Option.some.injEq, Addr.mk.injEq, and_true] at h'
    obtain ⟨e1, e2, e3⟩ := h'
    subst e1 e3
    have hcell : ∀ p, p < 4 → w.cell? ⟨g, k * 4 + p, none⟩ = (rv M[k])[p]? := by
      intro p hp
      rw [cell_of_row w g _ _ _ _ hg, ← flat_at M k p hk hp, ← htake, List.getElem?_take_of_lt (by omega)]
      simp
    exact ⟨⟨hcell 0 (by omega), hcell 1 (by omega), hcell 2 (by omega), hcell 3 (by omega)⟩, fun o => frozen_of_row w g o _ _ hg, hb⟩
end Go.Proofs.Ytndfhnaafaijcaa.Ln

/- api.Line: CONTRACT OF THE BOOK OF MEMORY: Same. (By genrows.py.) -/
namespace Go.Proofs.Ytndfhnaafaijcaa.Ln
open Go.RowKit
open Mem

open Go.Sort (grow)
def eqB (a b : T) : Bool := decide (a.text = b.text ∧ a.category = b.category ∧ a.count = b.count ∧ a.price = b.price)
theorem eqB_iff (a b : T) : eqB a b = true ↔ a = b := by
  unfold eqB
  rw [decide_eq_true_iff]
  cases a
  cases b
  simp
def sameB : List T → List T → Bool
  | [], [] => true
  | a :: l, b :: m => eqB a b && sameB l m
  | _, _ => false
theorem sameB_iff : ∀ l m : List T, sameB l m = true ↔ l = m
  | [], [] => by simp [sameB]
  | [], _ :: _ => by simp [sameB]
  | _ :: _, [] => by simp [sameB]
  | a :: l, b :: m => by
    rw [sameB, Bool.and_eq_true, eqB_iff, sameB_iff l m, List.cons.injEq]
theorem sameB_self (l : List T) : sameB l l = true := (sameB_iff l l).2 rfl
theorem sameB_len {l m : List T} (h : l.length ≠ m.length) : sameB l m = false := by
  rw [Bool.eq_false_iff]
  intro k
  exact h (congrArg List.length ((sameB_iff l m).1 k))
theorem same_at (l m : List T) (k : Nat) (h : k < l.length) (h' : k < m.length) : sameB (l.drop k) (m.drop k) = (eqB l[k] m[k] && sameB (l.drop (k + 1)) (m.drop (k + 1))) := by
  rw [List.drop_eq_getElem_cons h, List.drop_eq_getElem_cons h', sameB]
set_option maxHeartbeats 4000000 in
theorem same_any (xs ys : List T) (ao bo : Option Addr) (n m ca cb : Nat) (w0 w : World) (hw : Below w0.heap.size w0 w) (hA : Ls w ao n ca xs) (hB : Ls w bo m cb ys) :
    Calls Try.prog 29 #[.slice ao n ca, .slice bo m cb] w fun e w' => e = .returned (.bool (sameB xs ys)) ∧ Below w0.heap.size w0 w' := by
  have HW := Lib.hid hw
  have HA := Lib.hid hA
  have HB := Lib.hid hB
  have HN := Lib.hid hA.len
  have HM := Lib.hid hB.len
  have hca := hA.reach
  have hfa := hA.fits
  have hcb := hB.reach
  have hfb := hB.fits
  clear hw hA hB
  by_cases hnm : n = m
  · subst hnm
    have hne : ((n : Int) != (n : Int)) = false := bne_self_eq_false _
    go_enter Try.func29, Try.ntmps29
    go_wp2
    go_loopw [5] (fun i wr => ∃ k : Nat, k ≤ n ∧ i = .int .i64 k ∧ Hid (sameB (xs.drop k) (ys.drop k) = sameB xs ys) ∧ Hid (Below w.heap.size w wr)) (fun i _ => n - (intOf i).toNat)
    case atStart => exact ⟨0, Nat.zero_le _, rfl, Lib.hid rfl, Lib.hid (Below.refl _ _)⟩
    case round =>
      obtain ⟨k, hk, rfl, HK, HBz⟩ := hrel
      by_cases hlt : k < n
      · obtain ⟨a, oa, rfl⟩ := HA.out.at (by omega)
        obtain ⟨b, ob, rfl⟩ := HB.out.at (by omega)
        have hkr : k < xs.length := HN.out ▸ hlt
        have hks : k < ys.length := HM.out ▸ hlt
        have HSt := Lib.hid (same_at xs ys k hkr hks)
        obtain ⟨r, hr⟩ : ∃ r, xs[k] = r := ⟨_, rfl⟩
        obtain ⟨s, hs⟩ : ∃ s, ys[k] = s := ⟨_, rfl⟩
        have h1 := (HA.out.row k hkr).below HBz.out
        have h2 := (HB.out.row k hks).below HBz.out
        rw [hr] at h1 HSt
        rw [hs] at h2 HSt
        clear hr hs
        obtain ⟨g0, g1, g2, g3⟩ := h1
        obtain ⟨f0, f1, f2, f3⟩ := h2
        have g0' := cell_regrown g0
        have g1' := cell_regrown g1
        have g2' := cell_regrown g2
        have g3' := cell_regrown g3
        have f0' := cell_regrown f0
        have f1' := cell_regrown f1
        have f2' := cell_regrown f2
        have f3' := cell_regrown f3
        clear g0 g1 g2 g3 f0 f1 f2 f3
        by_cases e0 : r.text = s.text
        · have q0 : (r.text.toList == s.text.toList) = true := beq_iff_eq.2 (by rw [e0])
          by_cases e1 : r.category = s.category
          · have q1 : (r.category.toList == s.category.toList) = true := beq_iff_eq.2 (by rw [e1])
            by_cases e2 : r.count = s.count
            · have q2 : (r.count == s.count) = true := beq_iff_eq.2 e2
              by_cases e3 : r.price = s.price
              · have q3 : (r.price == s.price) = true := beq_iff_eq.2 e3
                have HE : Hid (eqB r s = true) := Lib.hid (decide_eq_true ⟨e0, e1, e2, e3⟩)
                clear e0 e1 e2 e3
                go_wp2
                refine wp_region_quiet_below (by kernel_rfl) (by kernel_rfl) ?_
                repeat (first | go_big_quiet_step (fail) | quiet_step (fail))
                refine wpQuiet_nil ?_
                intro _ hw'
                obtain ⟨⟨dq, osq⟩, hw''⟩ := hw'
                subst hw''
                have HBv := Lib.hid (bchain HBz.out (below_regrown wr dq osq))
                go_wp2
                go_roundw
                case rel => exact ⟨k + 1, by omega, by go_num, Lib.hid (by rw [← HK.out, HSt.out, HE.out, Bool.true_and]), HBv⟩
                case measure => simp [intOf]; omega
              · have q3 : (r.price == s.price) = false := beq_eq_false_iff_ne.2 e3
                have HE : Hid (eqB r s = false) := Lib.hid (decide_eq_false fun h => e3 h.2.2.2)
                clear e0 e1 e2 e3
                go_wp2
                refine wp_region_quiet_below (by kernel_rfl) (by kernel_rfl) ?_
                repeat (first | go_big_quiet_step (fail) | quiet_step (fail))
                refine wpQuiet_nil ?_
                intro _ hw'
                obtain ⟨⟨dq, osq⟩, hw''⟩ := hw'
                subst hw''
                have HBv := Lib.hid (bchain HBz.out (below_regrown wr dq osq))
                go_wp2
                go_ret
                exact ⟨ret_bool (by rw [← HK.out, HSt.out, HE.out, Bool.false_and]), bchain HW.out HBv.out⟩
            · have q2 : (r.count == s.count) = false := beq_eq_false_iff_ne.2 e2
              have HE : Hid (eqB r s = false) := Lib.hid (decide_eq_false fun h => e2 h.2.2.1)
              clear e0 e1 e2
              go_wp2
              refine wp_region_quiet_below (by kernel_rfl) (by kernel_rfl) ?_
              repeat (first | go_big_quiet_step (fail) | quiet_step (fail))
              refine wpQuiet_nil ?_
              intro _ hw'
              obtain ⟨⟨dq, osq⟩, hw''⟩ := hw'
              subst hw''
              have HBv := Lib.hid (bchain HBz.out (below_regrown wr dq osq))
              go_wp2
              go_ret
              exact ⟨ret_bool (by rw [← HK.out, HSt.out, HE.out, Bool.false_and]), bchain HW.out HBv.out⟩
          · have q1 : (r.category.toList == s.category.toList) = false := beq_eq_false_iff_ne.2 fun h => e1 (txt_ext (by rw [← tl, ← tl]; exact h))
            have HE : Hid (eqB r s = false) := Lib.hid (decide_eq_false fun h => e1 h.2.1)
            clear e0 e1
            go_wp2
            refine wp_region_quiet_below (by kernel_rfl) (by kernel_rfl) ?_
            repeat (first | go_big_quiet_step (fail) | quiet_step (fail))
            refine wpQuiet_nil ?_
            intro _ hw'
            obtain ⟨⟨dq, osq⟩, hw''⟩ := hw'
            subst hw''
            have HBv := Lib.hid (bchain HBz.out (below_regrown wr dq osq))
            go_wp2
            go_ret
            exact ⟨ret_bool (by rw [← HK.out, HSt.out, HE.out, Bool.false_and]), bchain HW.out HBv.out⟩
        · have q0 : (r.text.toList == s.text.toList) = false := beq_eq_false_iff_ne.2 fun h => e0 (txt_ext (by rw [← tl, ← tl]; exact h))
          have HE : Hid (eqB r s = false) := Lib.hid (decide_eq_false fun h => e0 h.1)
          clear e0
          go_wp2
          refine wp_region_quiet_below (by kernel_rfl) (by kernel_rfl) ?_
          repeat (first | go_big_quiet_step (fail) | quiet_step (fail))
          refine wpQuiet_nil ?_
          intro _ hw'
          obtain ⟨⟨dq, osq⟩, hw''⟩ := hw'
          subst hw''
          have HBv := Lib.hid (bchain HBz.out (below_regrown wr dq osq))
          go_wp2
          go_ret
          exact ⟨ret_bool (by rw [← HK.out, HSt.out, HE.out, Bool.false_and]), bchain HW.out HBv.out⟩
      · obtain rfl : k = n := by omega
        go_wp2
        go_ret
        refine ⟨ret_bool ?_, HW.out.trans (HBz.out.mono HW.out.size)⟩
        rw [← HK.out, List.drop_eq_nil_of_le (Nat.le_of_eq HN.out.symm), List.drop_eq_nil_of_le (Nat.le_of_eq HM.out.symm)]
        rfl
  · have HE := Lib.hid (sameB_len (l := xs) (m := ys) (by rw [← HN.out, ← HM.out]; exact hnm))
    have hne : ((n : Int) != (m : Int)) = true := bne_iff_ne.2 (by omega)
    go_enter Try.func29, Try.ntmps29
    go_wp2
    go_ret
    exact ⟨ret_bool HE.out.symm, HW.out⟩
theorem same_rows (xs : List T) (ao bo : Option Addr) (n ca cb : Nat) (w0 w : World) (hw : Below w0.heap.size w0 w) (hA : Ls w ao n ca xs) (hB : Ls w bo n cb xs) :
    Calls Try.prog 29 #[.slice ao n ca, .slice bo n cb] w fun e w' => e = .returned (.bool true) ∧ Below w0.heap.size w0 w' := by
  have h := same_any xs xs ao bo n n ca cb w0 w hw hA hB
  rw [sameB_self] at h
  exact h
end Go.Proofs.Ytndfhnaafaijcaa.Ln

/- api.Line: CONTRACTS OF THE BOOK OF MEMORY: Roomy, Intact. (By genrows.py.) -/
namespace Go.Proofs.Ytndfhnaafaijcaa.Ln
open Go.RowKit
open Mem

open Go.Sort (grow)

theorem set_rest {L t : List T} {n k : Nat} {v : T} (hn : L.length = n) : (L ++ t).set (n + k) v = L ++ t.set k v := by
  subst hn
  rw [List.set_append_right _ _ (by omega), Nat.add_sub_cancel_left]
theorem take_set {t : List T} {k : Nat} {v : T} (hk : k < t.length) (h : t.take k = List.replicate k v) : (t.set k v).take (k + 1) = List.replicate (k + 1) v := by
  rw [List.take_succ_eq_append_getElem (by simpa using hk), List.take_set_of_le (Nat.le_refl k), h, List.replicate_succ']
  simp
set_option maxHeartbeats 4000000 in
theorem roomy (rs : List T) (mark : T) (ao : Option Addr) (n cap : Nat) (w : World) (hR : Ls w ao n cap rs) (hn : n ≤ 90000) :
    Calls Try.prog 18 #[.slice ao n cap, val mark] w fun e w' => e = .returned (.slice (some ⟨w.heap.size + 1, 0, none⟩) (n + 80) (n + 80)) ∧ Block w' (w.heap.size + 1) (rs ++ List.replicate 80 mark) ∧ Below w.heap.size w w' := by
  have HR := Lib.hid hR
  have HN := Lib.hid hR.len
  have hcap := hR.reach
  have hfit := hR.fits
  clear hR
  have hmk := make (n + 80) (by omega)
  rw [show ((n + 80 : Nat) : Int) = (n : Int) + 80 from by omega] at hmk
  obtain ⟨U, hU, hbU, hCU⟩ := boxed1 w mark
  have hUs : U.heap.size = w.heap.size + 1 := by rw [← hU]; simp
  have hblk0 := block_made U (n + 80)
  rw [hUs, ← List.replicate_append_replicate] at hblk0
  have hbel0 : Below U.heap.size U (U.alloc (.cells (zeros (n + 80)) 56)) := (Below.refl _ _).alloc (Nat.le_refl _) _
  obtain ⟨W1, hcp, hblk, hbel, hsz⟩ := copy (U.alloc (.cells (zeros (n + 80)) 56)) (w.heap.size + 1) (List.replicate 80 zero) (n + 80) ao n cap rs hblk0 HN.out (((HR.out.below hbU).below hbel0).seg)
  rw [List.length_replicate] at hcp
  have HB1 := Lib.hid (hbel _ _ hbel0 (by omega))
  have HBk := Lib.hid hblk
  have HCU := Lib.hid hCU
  have HBU := Lib.hid hbU
  clear hblk hbel hblk0 hbel0 hCU hbU
  unfold val
  go_enter Try.func18, Try.ntmps18
  go_wp2
  go_loopw [6] (fun i wr => ∃ (k : Nat) (t : List T), k ≤ 80 ∧ i = .int .i64 ((n : Int) + k) ∧ Hid (t.length = 80 ∧ t.take k = List.replicate k mark ∧ Block wr (w.heap.size + 1) (rs ++ t)) ∧ Hid (Below U.heap.size U wr)) (fun i _ => (n : Int).toNat + 80 - (intOf i).toNat)
  case atStart => exact ⟨0, List.replicate 80 zero, by omega, by go_num, Lib.hid ⟨by simp, rfl, HBk.out⟩, HB1⟩
  case round =>
    obtain ⟨k, t, hk, rfl, HT, HB⟩ := hrel
    by_cases hlt : k < 80
    · have hC := HCU.out.below HB.out
      unfold C at hC
      obtain ⟨a0, a1, a2, a3⟩ := hC
      obtain ⟨r0, hr0⟩ : ∃ r0, (rs ++ t)[n + k]? = some r0 := ⟨_, List.getElem?_eq_getElem (by rw [List.length_append, HT.out.1, ← HN.out]; omega)⟩
      have hrow := HT.out.2.2.row (n + k) (by rw [List.length_append, HT.out.1, ← HN.out]; omega)
      rw [show (rs ++ t)[n + k]'(by rw [List.length_append, HT.out.1, ← HN.out]; omega) = r0 from Option.some.inj ((List.getElem?_eq_getElem _).symm.trans hr0)] at hrow
      clear hr0
      obtain ⟨g0, g1, g2, g3⟩ := hrow
      have hfz := HT.out.2.2.frozen
      clear hU hmk hcp
      go_wp2
      go_roundw
      case rel =>
        refine ⟨k + 1, t.set k mark, by omega, by go_num, Lib.hid ⟨by simpa using HT.out.1, take_set (by rw [HT.out.1]; exact hlt) HT.out.2.1, ?_⟩, Lib.hid (below_store HB.out (Nat.le_of_eq hUs) (n + k) _ _ _ _)⟩
        rw [← set_rest HN.out.symm]
        exact HT.out.2.2.store (n + k) (by rw [List.length_append, HT.out.1, ← HN.out]; omega) mark
      case measure => simp [intOf]; omega
    · have HF : Hid (t = List.replicate 80 mark) := by
        have h := HT.out.2.1
        rw [List.take_of_length_le (by rw [HT.out.1]; omega), show k = 80 by omega] at h
        exact h
      clear hU hmk hcp
      go_wp2
      go_ret
      exact ⟨rfl, HF.out ▸ HT.out.2.2, bchain HBU.out HB.out⟩
theorem full_ls {w : World} {g n : Nat} {L : List T} {mark : T} (hB : Block w g (L ++ List.replicate 80 mark)) (hn : n = L.length) (hn9 : n ≤ 90000) (hs : ∀ r ∈ L, Short r) (hm : Short mark) : Ls w (some ⟨g, 0, none⟩) (n + 80) (n + 80) (L ++ List.replicate 80 mark) :=
  Block.ls (zs := []) (by rw [List.append_nil]; exact hB) _ _ (by rw [List.length_append, List.length_replicate, ← hn]) (Nat.le_refl _) (by omega) (fun r hr => by
    rcases List.mem_append.1 hr with hr | hr
    · exact hs r hr
    · rw [(List.mem_replicate.1 hr).2]; exact hm)
set_option maxHeartbeats 4000000 in
theorem intact (rs : List T) (mark : T) (ao : Option Addr) (g n cap : Nat) (w0 w : World) (hw : Below w0.heap.size w0 w) (hR : Ls w ao n cap rs) (hB : Block w g (rs ++ List.replicate 80 mark)) (hm : Short mark) (hn : n ≤ 90000) :
    Calls Try.prog 22 #[.slice (some ⟨g, 0, none⟩) (n + 80) (n + 80), .slice ao n cap, val mark] w fun e w' => e = .returned (.bool true) ∧ Below w0.heap.size w0 w' := by
  have HW := Lib.hid hw
  have HN := Lib.hid hR.len
  have hcap := hR.reach
  have hfit := hR.fits
  obtain ⟨U, hU, hbU, hCU⟩ := boxed1 w mark
  have HR := Lib.hid (hR.below hbU)
  have hBU := hB.below hbU
  have HBk := Lib.hid hBU
  have hFull := full_ls hBU hR.len hn hR.short hm
  obtain ⟨hs1, hR1⟩ := hFull.to n (by omega)
  rw [List.take_left' hR.len.symm] at hR1
  have HR1 := Lib.hid hR1
  have HCU := Lib.hid hCU
  have HBU := Lib.hid (bchain HW.out hbU)
  clear hw hR hB hR1 hFull hBU hCU hbU
  have hne : (((n : Int) + 80) != ((n : Int) + 80)) = false := bne_self_eq_false _
  unfold val
  go_enter Try.func22, Try.ntmps22
  go_wp2_with fail
  refine (same_rows rs (some ⟨g, 0, none⟩) ao n (n + 80) cap U _ (Below.refl _ _) HR1.out HR.out).mono ?_
  rintro e w1 ⟨rfl, b1⟩
  have HB1 := Lib.hid b1
  clear b1 hU
  go_wp2_with fail
  go_loopw [7] (fun i wr => ∃ k : Nat, k ≤ 80 ∧ i = .int .i64 ((n : Int) + k) ∧ Hid (Below U.heap.size U wr)) (fun i _ => (n : Int).toNat + 80 - (intOf i).toNat)
  case atStart => exact ⟨0, by omega, by go_num, HB1⟩
  case round =>
    rename World => wz
    obtain ⟨k, hk, rfl, HB⟩ := hrel
    by_cases hlt : k < 80
    · have hC := HCU.out.below HB.out
      unfold C at hC
      obtain ⟨a0, a1, a2, a3⟩ := hC
      have hrow := (HBk.out.row (n + k) (by rw [List.length_append, List.length_replicate, ← HN.out]; omega)).below HB.out
      rw [List.getElem_append_right (by rw [← HN.out]; omega), List.getElem_replicate] at hrow
      obtain ⟨g0, g1, g2, g3⟩ := hrow
      have a0' := cell_regrown a0
      have a1' := cell_regrown a1
      have a2' := cell_regrown a2
      have a3' := cell_regrown a3
      have g0' := cell_regrown g0
      have g1' := cell_regrown g1
      have g2' := cell_regrown g2
      have g3' := cell_regrown g3
      have q0 : (mark.text.toList == mark.text.toList) = true := beq_self_eq_true _
      have q1 : (mark.category.toList == mark.category.toList) = true := beq_self_eq_true _
      have q2 : (mark.count == mark.count) = true := beq_self_eq_true _
      have q3 : (mark.price == mark.price) = true := beq_self_eq_true _
      go_wp2
      refine wp_region_quiet_below (by kernel_rfl) (by kernel_rfl) ?_
      repeat (first | go_big_quiet_step (fail) | quiet_step (fail))
      refine wpQuiet_nil ?_
      intro _ hw'
      obtain ⟨⟨dq, osq⟩, hw''⟩ := hw'
      subst hw''
      have HBv := Lib.hid (bchain HB.out (below_regrown wz dq osq))
      go_wp2
      go_roundw
      case rel => exact ⟨k + 1, by omega, by go_num, HBv⟩
      case measure => simp [intOf]; omega
    · go_wp2
      go_ret
      exact ⟨rfl, bchain HBU.out HB.out⟩
end Go.Proofs.Ytndfhnaafaijcaa.Ln

/- api.Cmd: A FLAT COMMAND AS IT IS HANDED OVER. (By gencmd.py.) -/
namespace Go.Proofs.Ytndfhnaafaijcaa.Cm
open Go.RowKit Mem

structure T where
  kind : Int
  series : ByteArray
  limit : Int
  cat : ByteArray
  fy : Int
  fm : Int
  fd : Int
  bp : Int
  y : Int
  m : Int
  d : Int
  ao : Option Addr
  n : Nat
  cap : Nat
  ofs : ByteArray
  ofn : Int
  session : Int
def T.zero : T := ⟨0, .empty, 0, .empty, 0, 0, 0, 0, 0, 0, 0, none, 0, 0, .empty, 0, 0⟩
/-- its cells -/
def rv (c : T) : List Value := [.int .i64 c.kind, .string c.series, .int .i64 c.limit, .string c.cat, .int .i64 c.fy, .int .i64 c.fm, .int .i64 c.fd, .int .i64 c.bp, .int .i64 c.y, .int .i64 c.m, .int .i64 c.d, .slice c.ao c.n c.cap, .string c.ofs, .int .i64 c.ofn, .int .i64 c.session]
def val (c : T) : Value := .agg #[.int .i64 c.kind, .string c.series, .int .i64 c.limit, .string c.cat, .int .i64 c.fy, .int .i64 c.fm, .int .i64 c.fd, .int .i64 c.bp, .int .i64 c.y, .int .i64 c.m, .int .i64 c.d, .slice c.ao c.n c.cap, .string c.ofs, .int .i64 c.ofn, .int .i64 c.session]
/-- its numbers are numbers of 64 bits, its texts are not too long for any memory, and its lines are these -/
structure In (w : World) (c : T) (ls : List Ln.T) : Prop where
  s_series : c.series.size ≤ 140737488355328
  s_cat : c.cat.size ≤ 140737488355328
  s_ofs : c.ofs.size ≤ 140737488355328
  f_kind : Fit c.kind
  f_limit : Fit c.limit
  f_fy : Fit c.fy
  f_fm : Fit c.fm
  f_fd : Fit c.fd
  f_bp : Fit c.bp
  f_y : Fit c.y
  f_m : Fit c.m
  f_d : Fit c.d
  f_ofn : Fit c.ofn
  f_session : Fit c.session
  lines : Ln.Ls w c.ao c.n c.cap ls
theorem In.below {w v : World} {c : T} {ls : List Ln.T} (h : In w c ls) (k : Below w.heap.size w v) : In v c ls :=
  { h with lines := h.lines.below k }
end Go.Proofs.Ytndfhnaafaijcaa.Cm

/- api.Cmd: A COMMAND TOLD PLAINLY. (By gencmds.py.) -/
namespace Go.Proofs.Ytndfhnaafaijcaa.Cm
open Go.RowKit

structure S where
  kind : Int
  series : ByteArray
  limit : Int
  cat : ByteArray
  fy : Int
  fm : Int
  fd : Int
  bp : Int
  y : Int
  m : Int
  d : Int
  lines : List Ln.T
  ofs : ByteArray
  ofn : Int
  session : Int
/-- what a flat command tells -/
def T.sem (c : T) (ls : List Ln.T) : S := ⟨c.kind, c.series, c.limit, c.cat, c.fy, c.fm, c.fd, c.bp, c.y, c.m, c.d, ls, c.ofs, c.ofn, c.session⟩
def S.zero : S := ⟨0, .empty, 0, .empty, 0, 0, 0, 0, 0, 0, 0, [], .empty, 0, 0⟩
/-- it has a kind -/
def S.isB (s : S) : Bool := decide (1 ≤ s.kind ∧ s.kind ≤ 8)
/-- the fields that its kind names, alone -/
def S.bare (s : S) : S :=
  if s.kind = 1 then ⟨1, s.series, s.limit, .empty, 0, 0, 0, 0, 0, 0, 0, [], .empty, 0, 0⟩
  else if s.kind = 2 then ⟨2, s.series, 0, .empty, 0, 0, 0, 0, 0, 0, 0, [], .empty, 0, 0⟩
  else if s.kind = 3 then ⟨3, .empty, 0, s.cat, s.fy, s.fm, s.fd, s.bp, 0, 0, 0, [], .empty, 0, 0⟩
  else if s.kind = 4 then ⟨4, s.series, 0, .empty, 0, 0, 0, 0, s.y, s.m, s.d, s.lines, .empty, 0, 0⟩
  else if s.kind = 5 then ⟨5, s.series, 0, .empty, 0, 0, 0, 0, s.y, s.m, s.d, [], s.ofs, s.ofn, 0⟩
  else if s.kind = 6 then ⟨6, .empty, 0, .empty, 0, 0, 0, 0, 0, 0, 0, [], .empty, 0, 0⟩
  else if s.kind = 7 then ⟨7, .empty, 0, .empty, 0, 0, 0, 0, 0, 0, 0, [], .empty, 0, s.session⟩
  else if s.kind = 8 then ⟨8, s.series, 0, .empty, 0, 0, 0, 0, 0, 0, 0, [], .empty, 0, 0⟩
  else S.zero
end Go.Proofs.Ytndfhnaafaijcaa.Cm

/- A FLAT COMMAND AS A WHOLE: read from its place, laid into its place (no cell by cell). -/
namespace Go.Proofs.Ytndfhnaafaijcaa.Cm
open Go.RowKit
open Mem

theorem info : (Try.prog.info? 37).map (·.size) = some 15 := by kernel_rfl
theorem heap_top (w : World) (o : Obj) : (w.alloc o).heap[w.heap.size]? = some o := by
  unfold World.alloc
  exact Array.getElem?_push_size
theorem heap_next (w : World) (o x : Obj) : ((w.alloc o).alloc x).heap[w.heap.size]? = some o := by
  simp only [World.alloc]
  rw [Array.getElem?_push_lt (by simp)]
  simp
theorem load_row (w : World) (g : Nat) (cs : Array Value) (t : TypeId) (hg : w.heap[g]? = some (.cells cs t)) (hs : cs.size = 15) :
    (Instr.loadAt 37 (.pointer (some ⟨g, 0, none⟩))).run Try.prog w = .ok (.agg cs) w := by
  simp only [Instr.loadAt, Instr.sureAddr, Sem.run_bind, Sem.run_pure, Result.andThen_ok, run_loadVar_row w g t 37 cs (0, 0) _ hg Try.underlying37 rfl (by rw [info, hs])]
theorem load_top (w : World) (cs : Array Value) (hs : cs.size = 15) : (Instr.loadAt 37 (.pointer (some ⟨w.heap.size, 0, none⟩))).run Try.prog (w.alloc (.cells cs 37)) = .ok (.agg cs) (w.alloc (.cells cs 37)) :=
  load_row _ _ cs _ (heap_top w _) hs
theorem load_next (w : World) (cs : Array Value) (x : Obj) (hs : cs.size = 15) :
    (Instr.loadAt 37 (.pointer (some ⟨w.heap.size, 0, none⟩))).run Try.prog ((w.alloc (.cells cs 37)).alloc x) = .ok (.agg cs) ((w.alloc (.cells cs 37)).alloc x) :=
  load_row _ _ cs _ (heap_next w _ x) hs
theorem set_row (w : World) (old cs : Array Value) (t : TypeId) : (w.alloc (.cells old t)).setRow w.heap.size cs = w.alloc (.cells cs t) := by
  unfold World.setRow World.alloc
  simp only [World.mk.injEq, and_true]
  apply Array.ext_getElem?
  intro i
  rw [Array.getElem?_modify]
  by_cases hi : w.heap.size = i
  · subst hi
    simp
  · rw [if_neg hi, Array.getElem?_push, Array.getElem?_push, if_neg (Ne.symm hi), if_neg (Ne.symm hi)]
/-- at the list of a plain region's operations: a load of the whole -/
theorem wpl_load {ops : Array Oper} {rest : List Oper} {o : Oper} {a : Act} {w : World} {Q : Exit → Act → World → Prop} {x : Operand} {g : Nat} {cs : Array Value} (ho : o.op = .load 37 x) (hgd : o.guard = none)
    (hx : a.eval x = .pointer (some ⟨g, 0, none⟩)) (hg : w.heap[g]? = some (.cells cs 37)) (hs : cs.size = 15)
    (h : wpList Try.prog ops Q rest (a.put o.dst (.agg cs)) w) : wpList Try.prog ops Q (o :: rest) a w :=
  wpList_load_row hgd 37 x ho g hx 37 cs (0, 0) _ hg Try.underlying37 rfl (by rw [info, hs]) h
theorem wpl_store {ops : Array Oper} {rest : List Oper} {o : Oper} {a : Act} {w : World} {Q : Exit → Act → World → Prop} {x y : Operand} {old cs : Array Value} {g : Nat} (ho : o.op = .store 37 x y) (hgd : o.guard = none)
    (hx : a.eval x = .pointer (some ⟨g, 0, none⟩)) (hg : g = w.heap.size) (hy : a.eval y = .agg cs) (hs : cs.size = 15) (hold : old.size = 15) (h1 : cs.all (·.oneCell') = true)
    (h : wpList Try.prog ops Q rest (a.put o.dst undef) (w.alloc (.cells cs 37))) : wpList Try.prog ops Q (o :: rest) a (w.alloc (.cells old 37)) := by
  subst hg
  refine wpList_store_row hgd 37 x y ho w.heap.size cs hx hy 37 old (heap_top w _) (by rw [info, hs]) (by rw [hold, hs]) h1 ?_
  rw [set_row]
  exact h
theorem size_one (w : World) (x : Obj) : w.heap.size + 1 = (w.alloc x).heap.size := by simp
theorem size_two (w : World) (x y : Obj) : w.heap.size + 1 + 1 = ((w.alloc x).alloc y).heap.size := by simp
theorem set_mid (w : World) (old cs : Array Value) (t : TypeId) (x : Obj) : ((w.alloc (.cells old t)).alloc x).setRow w.heap.size cs = (w.alloc (.cells cs t)).alloc x := by
  unfold World.setRow World.alloc
  simp only [World.mk.injEq, and_true]
  apply Array.ext_getElem?
  intro i
  rw [Array.getElem?_modify]
  by_cases hi : w.heap.size = i
  · subst hi
    rw [if_pos rfl, Array.getElem?_push_lt (by simp), Array.getElem?_push_lt (by simp)]
    simp
  · rw [if_neg hi, Array.getElem?_push, Array.getElem?_push, Array.getElem?_push, Array.getElem?_push, if_neg (Ne.symm hi), if_neg (Ne.symm hi)]
    simp
/-- .. into the last block but one -/
theorem wpl_store_mid {ops : Array Oper} {rest : List Oper} {o : Oper} {a : Act} {w : World} {Q : Exit → Act → World → Prop} {x y : Operand} {old cs : Array Value} {g : Nat} {X : Obj} (ho : o.op = .store 37 x y) (hgd : o.guard = none)
    (hx : a.eval x = .pointer (some ⟨g, 0, none⟩)) (hg : g = w.heap.size) (hy : a.eval y = .agg cs) (hs : cs.size = 15) (hold : old.size = 15) (h1 : cs.all (·.oneCell') = true)
    (h : wpList Try.prog ops Q rest (a.put o.dst undef) ((w.alloc (.cells cs 37)).alloc X)) : wpList Try.prog ops Q (o :: rest) a ((w.alloc (.cells old 37)).alloc X) := by
  subst hg
  refine wpList_store_row hgd 37 x y ho w.heap.size cs hx hy 37 old (heap_next w _ X) (by rw [info, hs]) (by rw [hold, hs]) h1 ?_
  rw [set_mid]
  exact h
theorem heap_third (w : World) (x y o : Obj) : (((w.alloc x).alloc y).alloc o).heap[w.heap.size + 1 + 1]? = some o := by
  have h := heap_top ((w.alloc x).alloc y) o
  rw [show ((w.alloc x).alloc y).heap.size = w.heap.size + 1 + 1 by simp] at h
  exact h
theorem results_row {fn : Func} {p : Tmp} (h : fn.results = #[.cell p 37]) {tmps : Array Value} {w : World} {g : Nat} {cs : Array Value} (hp : tmps.getD p undef = .pointer (some ⟨g, 0, none⟩))
    (hg : w.heap[g]? = some (.cells cs 37)) (hs : cs.size = 15) : (results fn tmps).run Try.prog w = .ok (.agg cs) w :=
  results_cell_row h tmps w g 37 cs (0, 0) _ hp hg Try.underlying37 rfl (by rw [info, hs])
theorem heap_second (w : World) (x o : Obj) : ((w.alloc x).alloc o).heap[w.heap.size + 1]? = some o := by
  have h := heap_top (w.alloc x) o
  rw [show (w.alloc x).heap.size = w.heap.size + 1 by simp] at h
  exact h
theorem results_row2 {fn : Func} {p q : Tmp} (h : fn.results = #[.cell p 37, .tmp q]) {tmps : Array Value} {w : World} {g : Nat} {cs : Array Value} (hp : tmps.getD p undef = .pointer (some ⟨g, 0, none⟩))
    (hg : w.heap[g]? = some (.cells cs 37)) (hs : cs.size = 15) : (results fn tmps).run Try.prog w = .ok (.tuple #[.agg cs, tmps.getD q undef]) w := by
  have hp' : tmps[p]?.getD undef = .pointer (some ⟨g, 0, none⟩) := by simpa using hp
  simp [results, h, hp', asAddr, run_loadVar_row w g 37 37 cs (0, 0) _ hg Try.underlying37 rfl (by rw [info, hs])]
theorem heap_mid (w : World) (x o y : Obj) : (((w.alloc x).alloc o).alloc y).heap[w.heap.size + 1]? = some o := by
  have h := heap_next (w.alloc x) o y
  rw [show (w.alloc x).heap.size = w.heap.size + 1 by simp] at h
  exact h
end Go.Proofs.Ytndfhnaafaijcaa.Cm

/- impostlaw9's few: a command with no more than thirty lines. -/
namespace Go.Proofs.Ytndfhnaafaijcaa
open Go.RowKit
open Mem

def Cm.T.few (c : Cm.T) : Cm.T := { c with n := min c.n 30 }
theorem Cm.In.few {w : World} {c : Cm.T} {ls : List Ln.T} (h : Cm.In w c ls) : Cm.In w c.few (ls.take 30) := by
  refine { h with lines := ?_ }
  have hl := h.lines.len
  by_cases hn : 30 ≤ c.n
  · have := (h.lines.to 30 hn).2
    unfold Cm.T.few
    rw [Nat.min_eq_right hn]
    exact this
  · unfold Cm.T.few
    rw [Nat.min_eq_left (by omega), List.take_of_length_le (by omega)]
    exact h.lines
set_option maxHeartbeats 4000000 in
theorem few_any (c : Cm.T) (ls : List Ln.T) (w0 w : World) (hw : Below w0.heap.size w0 w) (hI : Cm.In w c ls) :
    Calls Try.prog 17 #[Cm.val c] w fun e w' => e = .returned (Cm.val c.few) ∧ Below w0.heap.size w0 w' := by
  have HW := Lib.hid hw
  have hfit := hI.lines.fits
  have hcap := hI.lines.reach
  by_cases hn : c.n ≤ 30
  · have e1 : c.few = c := by unfold Cm.T.few; rw [Nat.min_eq_left hn]
    rw [e1]
    unfold Cm.val
    clear hI hw
    go_enter Try.func17, Try.ntmps17
    go_wp2_with (first | refine Cm.wpl_load rfl rfl rfl (Cm.heap_next _ _ _) rfl ?_ | refine Cm.wpl_store rfl rfl rfl (Cm.size_one _ _) rfl rfl rfl rfl ?_)
    refine bodyPost_ret (Cm.results_row Try.results17 rfl (Cm.heap_second _ _ _) rfl) rfl ⟨rfl, ?_⟩
    exact below_box (below_box HW.out _) _
  · have e1 : c.few = { c with n := 30 } := by unfold Cm.T.few; rw [Nat.min_eq_right (by omega)]
    rw [e1]
    unfold Cm.val
    have hsl := (hI.lines.to 30 (by omega)).1
    clear hI hw
    go_enter Try.func17, Try.ntmps17
    go_wp2_with (first | refine Cm.wpl_load rfl rfl rfl (Cm.heap_next _ _ _) rfl ?_ | refine Cm.wpl_store rfl rfl rfl (Cm.size_one _ _) rfl rfl rfl rfl ?_)
    refine bodyPost_ret (Cm.results_row Try.results17 rfl (Cm.heap_second _ _ _) rfl) rfl ⟨rfl, ?_⟩
    exact below_box (below_box HW.out _) _
end Go.Proofs.Ytndfhnaafaijcaa
