/- MERGED: LnK, LnS, LnA, LnM, LnB, LnR, PtK, PtS, PtA, PtM, PtB, PtR, PtI. (By mg11.py.) -/
import Derived.Test.YthcaecinjmnlbabHa
import Derived.Maps.AppendAt
import Derived.Laws.AppendOwnNone
import Derived.Laws.Rows
import Derived.RegionTactic
import Derived.Laws.CopyOwn
import Derived.Laws.MakeOwn
import Derived.Lib.QuietBelow
import Derived.Lib.Overlaps
import Derived.Lib.JoinLaws
/- api.Line: A ROW AS IT IS HANDED OVER, AND IN A BLOCK OF ITS OWN. (By genrows.py.) -/
namespace Go.Proofs.Ythcaecinjmnlbab.Ln
open Go.RowKit
open Mem

structure T where
  text : ByteArray
  category : ByteArray
  count : Int
  price : Int
/-- a row as it is handed over -/
def val (r : T) : Value := .agg #[.string r.text, .string r.category, .int .i64 r.count, .int .i64 r.price]
/-- its numbers are numbers of 64 bits, its texts are not too long for any memory -/
def Short (r : T) : Prop := r.text.size ≤ 140737488355328 ∧ r.category.size ≤ 140737488355328 ∧ Fit r.count ∧ Fit r.price
/-- a row's own place -/
def box (w : World) (r : T) : World := w.alloc (.cells #[.string r.text, .string r.category, .int .i64 r.count, .int .i64 r.price] 30)
/-- a row lies in a block of its own -/
def C (u : World) (b : Nat) (r : T) : Prop :=
  u.cell? ⟨b, 0, none⟩ = some (.string r.text) ∧ u.cell? ⟨b, 1, none⟩ = some (.string r.category) ∧ u.cell? ⟨b, 2, none⟩ = some (.int .i64 r.count) ∧ u.cell? ⟨b, 3, none⟩ = some (.int .i64 r.price)
theorem C.below {u v : World} {b : Nat} {r : T} (h : C u b r) (k : Below u.heap.size u v) : C v b r := by
  obtain ⟨h0, h1, h2, h3⟩ := h
  have hl := cell_lt h0
  unfold C
  rw [(bcell k).1 _ _ hl, (bcell k).1 _ _ hl, (bcell k).1 _ _ hl, (bcell k).1 _ _ hl]
  exact ⟨h0, h1, h2, h3⟩
theorem c_box (w : World) (r : T) : C (box w r) w.heap.size r := by
  unfold box C
  simp [go_sem]
theorem box_size (w : World) (r : T) : (box w r).heap.size = w.heap.size + 1 := by
  unfold box
  simp
theorem below_own (w : World) (r : T) : Below w.heap.size w (box w r) := (Below.refl _ _).alloc (Nat.le_refl _) _
theorem boxed1 (w : World) (a : T) : ∃ W, w.alloc (.cells #[.string a.text, .string a.category, .int .i64 a.count, .int .i64 a.price] 30) = W ∧ Below w.heap.size w W ∧ C W w.heap.size a :=
  ⟨_, rfl, below_own w a, c_box w a⟩
theorem boxed2 (w : World) (a b : T) : ∃ W, (w.alloc (.cells #[.string a.text, .string a.category, .int .i64 a.count, .int .i64 a.price] 30)).alloc (.cells #[.string b.text, .string b.category, .int .i64 b.count, .int .i64 b.price] 30) = W ∧
    Below w.heap.size w W ∧ C W w.heap.size a ∧ C W (w.heap.size + 1) b := by
  refine ⟨_, rfl, ((below_own w a).trans ((below_own (box w a) b).mono (below_own w a).size)), (c_box w a).below (below_own _ b), ?_⟩
  have h := c_box (box w a) b
  rw [box_size] at h
  exact h
end Go.Proofs.Ythcaecinjmnlbab.Ln

/- api.Line: ROWS THAT LIE ONE BEHIND THE OTHER, AND PIECES OF THEM. (By genrows.py.) -/
namespace Go.Proofs.Ythcaecinjmnlbab.Ln
open Go.RowKit
open Mem

/-- a row lies at a place of a block -/
structure At (u : World) (b o : Nat) (r : T) : Prop where
  c0 : u.cell? ⟨b, o, none⟩ = some (.string r.text)
  c1 : u.cell? ⟨b, o + 1, none⟩ = some (.string r.category)
  c2 : u.cell? ⟨b, o + 2, none⟩ = some (.int .i64 r.count)
  c3 : u.cell? ⟨b, o + 3, none⟩ = some (.int .i64 r.price)
theorem At.below {u v : World} {b o : Nat} {r : T} (h : At u b o r) (k : Below u.heap.size u v) : At v b o r := by
  have hl := cell_lt h.c0
  exact ⟨by rw [(bcell k).1 _ _ hl]; exact h.c0, by rw [(bcell k).1 _ _ hl]; exact h.c1, by rw [(bcell k).1 _ _ hl]; exact h.c2, by rw [(bcell k).1 _ _ hl]; exact h.c3⟩
/-- rows lie at an address -/
def Seg (w : World) (ao : Option Addr) (rs : List T) : Prop := rs = [] ∨ ∃ b off, ao = some ⟨b, off, none⟩ ∧ ∀ (k : Nat) (hk : k < rs.length), At w b (off + k * 4) rs[k]
theorem Seg.below {w v : World} {ao : Option Addr} {rs : List T} (h : Seg w ao rs) (k : Below w.heap.size w v) : Seg v ao rs := by
  rcases h with h | ⟨b, off, e, h⟩
  · exact .inl h
  · exact .inr ⟨b, off, e, fun i hi => (h i hi).below k⟩
/-- a slice of rows, as a contract takes it -/
structure Ls (w : World) (ao : Option Addr) (n cap : Nat) (rs : List T) : Prop where
  len : n = rs.length
  fits : n ≤ cap
  reach : cap ≤ 9223372036854775807
  nil : ao = none → cap = 0
  seg : Seg w ao rs
  short : ∀ r ∈ rs, Short r
theorem Ls.below {w v : World} {ao : Option Addr} {n cap : Nat} {rs : List T} (h : Ls w ao n cap rs) (k : Below w.heap.size w v) : Ls v ao n cap rs :=
  ⟨h.len, h.fits, h.reach, h.nil, h.seg.below k, h.short⟩
theorem Ls.at {w : World} {ao : Option Addr} {n cap : Nat} {rs : List T} (h : Ls w ao n cap rs) (hn : 0 < n) : ∃ b off, ao = some ⟨b, off, none⟩ := by
  rcases h.seg with e | ⟨b, off, e, _⟩
  · have := h.len
    rw [e] at this
    simp at this
    omega
  · exact ⟨b, off, e⟩
theorem Ls.row {w : World} {b off n cap : Nat} {rs : List T} (h : Ls w (some ⟨b, off, none⟩) n cap rs) (k : Nat) (hk : k < rs.length) : At w b (off + k * 4) rs[k] := by
  rcases h.seg with e | ⟨b', off', e, hs⟩
  · subst e
    simp at hk
  · cases e
    exact hs k hk
theorem ls_nil (w : World) : Ls w none 0 0 [] := ⟨rfl, Nat.le_refl _, by omega, fun _ => rfl, .inl rfl, by simp⟩
theorem und : Try.prog.underlying 25 = some (.slice (Try.prog.elem 25)) := by kernel_rfl
theorem size (u : World) : (sizeOf (Try.prog.elem 25)).run Try.prog u = .ok 4 u := by
  have h : (Try.prog.info? (Try.prog.elem 25)).map (·.size) = some 4 := by kernel_rfl
  obtain ⟨i, hi, hs⟩ := Option.map_eq_some_iff.1 h
  simp [sizeOf, typeInfo, hi, hs]
theorem Ls.to {w : World} {ao : Option Addr} {n cap : Nat} {rs : List T} (h : Ls w ao n cap rs) (k : Nat) (hk : k ≤ n) :
    (∀ u, (Instr.slice 25 (.slice ao n cap) none (some (.int .i64 (k : Int))) none).run Try.prog u = .ok (.slice ao k cap) u) ∧ Ls w ao k cap (rs.take k) := by
  have hl := h.len
  have hf := h.fits
  refine ⟨fun u => ?_, ⟨by rw [List.length_take]; omega, by omega, h.reach, h.nil, ?_, fun r hr => h.short r (List.mem_of_mem_take hr)⟩⟩
  · rw [run_slice_h u 25 ao n cap und .i64 k (by omega) (by omega), size]
    have e : Option.map (fun x : Addr => x.add 0) ao = ao := by cases ao <;> simp [Addr.add]
    simp [Result.andThen, sliced, e]
  · rcases h.seg with e | ⟨b, off, e, hc⟩
    · exact .inl (by rw [e]; simp)
    · refine .inr ⟨b, off, e, fun j hj => ?_⟩
      rw [List.length_take] at hj
      rw [List.getElem_take]
      exact hc j (by omega)
theorem Ls.from {w : World} {ao : Option Addr} {n cap : Nat} {rs : List T} (h : Ls w ao n cap rs) (k : Nat) (hk : k ≤ n) :
    ∃ ao2 cap2, (∀ u, (Instr.slice 25 (.slice ao n cap) (some (.int .i64 (k : Int))) none none).run Try.prog u = .ok (.slice ao2 (n - k) cap2) u) ∧ Ls w ao2 (n - k) cap2 (rs.drop k) := by
  have hl := h.len
  have hf := h.fits
  refine ⟨if cap = k then ao else ao.map (·.add (k * 4)), cap - k, fun u => ?_, ⟨by rw [List.length_drop]; omega, by omega, by have := h.reach; omega, ?_, ?_, fun r hr => h.short r (List.mem_of_mem_drop hr)⟩⟩
  · rw [run_slice_l u 25 ao n cap und .i64 k (by omega) (by omega), size]
    simp [Result.andThen, sliced]
  · by_cases e : cap = k
    · omega
    · rw [if_neg e]
      cases ao with
      | none => have := h.nil rfl; omega
      | some a => exact fun k => by cases k
  · by_cases hkn : k = n
    · exact .inl (List.drop_eq_nil_of_le (by omega))
    · rcases h.seg with e | ⟨b, off, rfl, hc⟩
      · exact .inl (by rw [e]; simp)
      · refine .inr ⟨b, off + k * 4, ?_, fun j hj => ?_⟩
        · rw [if_neg (by omega)]
          unfold Addr.add
          simp only [Option.map_some, Option.some.injEq]
          split
          · rename_i e
            rw [e]
            rfl
          · rfl
        · rw [List.length_drop] at hj
          rw [List.getElem_drop, show off + k * 4 + j * 4 = off + (k + j) * 4 by omega]
          exact hc (k + j) (by omega)
end Go.Proofs.Ythcaecinjmnlbab.Ln

/- api.Line: append(own, rows...): A LAW FOR THE WALK, at a plain list and at a step of a region that draws its order. (By genrows.py.) -/
namespace Go.Proofs.Ythcaecinjmnlbab.Ln
open Go.RowKit
open Mem

/-- a row's cells -/
def rv (r : T) : List Value := [.string r.text, .string r.category, .int .i64 r.count, .int .i64 r.price]
theorem rv_len (r : T) : (rv r).length = 4 := rfl
theorem flat_len : ∀ rs : List T, (rs.flatMap rv).length = rs.length * 4
  | [] => rfl
  | r :: l => by
    rw [List.flatMap_cons, List.length_append, rv_len, flat_len l, List.length_cons]
    omega
theorem flat_at : ∀ (rs : List T) (k p : Nat) (hk : k < rs.length), p < 4 → (rs.flatMap rv)[k * 4 + p]? = (rv rs[k])[p]?
  | r :: l, 0, p, _, hp => by
    rw [List.flatMap_cons, List.getElem?_append_left (by rw [rv_len]; omega), Nat.zero_mul, Nat.zero_add]
    rfl
  | r :: l, k + 1, p, hk, hp => by
    rw [List.flatMap_cons, List.getElem?_append_right (by rw [rv_len]; omega), rv_len, show (k + 1) * 4 + p - 4 = k * 4 + p by omega]
    exact flat_at l k p (by simpa using hk) hp
theorem one_cell (rs : List T) : ∀ v ∈ rs.flatMap rv, v.oneCell' = true := by
  intro v hv
  obtain ⟨r, _, h⟩ := List.mem_flatMap.1 hv
  unfold rv at h
  simp only [List.mem_cons, List.not_mem_nil, or_false] at h
  rcases h with rfl | rfl | rfl | rfl <;> rfl
theorem news_of {w : World} {b off : Nat} {rs : List T} (h : ∀ (k : Nat) (hk : k < rs.length), At w b (off + k * 4) rs[k]) (j : Nat) (u : Value) (hu : (rs.flatMap rv)[j]? = some u) : w.cell? ((⟨b, off, none⟩ : Addr).add j) = some u := by
  have hj : j < (rs.flatMap rv).length := by
    obtain ⟨hj, _⟩ := List.getElem?_eq_some_iff.1 hu
    exact hj
  rw [flat_len] at hj
  obtain ⟨k, p, rfl, hp⟩ : ∃ k p, j = k * 4 + p ∧ p < 4 := ⟨j / 4, j % 4, by omega, by omega⟩
  have hk : k < rs.length := by omega
  rw [flat_at rs k p hk hp] at hu
  have ha : (⟨b, off, none⟩ : Addr).add (k * 4 + p) = ⟨b, off + k * 4 + p, none⟩ := by
    unfold Addr.add
    split
    · rename_i e
      simp only [Addr.mk.injEq, true_and, and_true]
      omega
    · simp only [Addr.mk.injEq, true_and, and_true]
      omega
  rw [ha]
  obtain ⟨c0, c1, c2, c3⟩ := h k hk
  have hp' : p = 0 ∨ p = 1 ∨ p = 2 ∨ p = 3 := by omega
  unfold rv at hu
  rcases hp' with rfl | rfl | rfl | rfl
  all_goals simp at hu
  all_goals subst hu
  · exact c0
  · exact c1
  · exact c2
  · exact c3
/-- rows of the call's own -/
def Own (w : World) (B : Nat) (v : Value) (xs : List T) : Prop := w.ownsRow B 30 4 v xs.length (xs.flatMap rv)
theorem own_nil (w : World) (B : Nat) : Own w B (.slice none 0 0) [] := ⟨rfl, .inl ⟨rfl, rfl⟩⟩
theorem own_ls {w : World} {B : Nat} {v : Value} {xs : List T} (h : Own w B v xs) (hs : ∀ r ∈ xs, Short r) : ∃ ao cap, v = .slice ao xs.length cap ∧ Ls w ao xs.length cap xs ∧ (∀ ad, ao = some ad → ∃ g, ad = ⟨g, 0, none⟩ ∧ B ≤ g) := by
  rcases h.2 with ⟨h', h2⟩ | ⟨g, cap, cur, h', hb, hg, hnc, hcm, hcs, htake⟩
  · have e : xs = [] := List.length_eq_zero_iff.1 h2
    subst e
    exact ⟨none, 0, h', ⟨rfl, Nat.le_refl _, by omega, fun _ => rfl, .inl rfl, hs⟩, fun ad k => by cases k⟩
  · refine ⟨some ⟨g, 0, none⟩, cap, h', ⟨rfl, hnc, hcm, fun k => (by cases k), .inr ⟨g, 0, rfl, fun k hk => ?_⟩, hs⟩, fun ad k => by cases k; exact ⟨g, rfl, hb⟩⟩
    have hcell : ∀ p, p < 4 → w.cell? ⟨g, 0 + k * 4 + p, none⟩ = (rv xs[k])[p]? := by
      intro p hp
      rw [Nat.zero_add, cell_of_row w g _ _ _ _ hg, ← flat_at xs k p hk hp, ← htake, List.getElem?_take_of_lt (by omega)]
      simp
    exact ⟨hcell 0 (by omega), hcell 1 (by omega), hcell 2 (by omega), hcell 3 (by omega)⟩
/-- the zero row -/
def zero : T := ⟨.empty, .empty, 0, 0⟩
def zeroV : Value := .agg #[.string .empty, .string .empty, .int .i64 0, .int .i64 0]
theorem info : (Try.prog.info? 30).map (fun i => (i.zero, i.size, i.bytes)) = some (some zeroV, 4, 48) := by kernel_rfl
theorem wp_append {o : Oper} {a : Act} {K : Act → World → Prop} {Q : Exit → Act → World → Prop} (w : World) (s x : Operand)
    (ho : o.op = .call { callee := .builtin .append, args := #[s, x], argTypes := #[25, 25] })
    (B : Nat) (v : Value) (xs : List T) (hs : a.eval s = v) (hown : Own w B v xs)
    (ao : Option Addr) (n cap : Nat) (zs : List T) (hx : a.eval x = .slice ao n cap) (hn : n = zs.length) (hnil : ao = none → cap = 0) (hsrc : Seg w ao zs) (hl : (xs.length + n) * 48 ≤ 140737488355328) (hb : B ≤ w.heap.size)
    (h : ∀ v' w1, Own w1 B v' (xs ++ zs) → w.grownBy w1 v.ownBlock → (v'.ownBlock = v.ownBlock ∨ v'.ownBlock = some w.heap.size) → K (a.put o.dst v') w1) : o.wp Try.prog a w K Q := by
  have hzs : zeroV.cells.size = 4 := rfl
  obtain ⟨i0, hi, hz0, hz1, hz2⟩ := info_parts info
  have hmx : maxLen = 9223372036854775807 := rfl
  have empty : zs = [] → n = 0 → Own w B v (xs ++ zs) := by
    intro e _
    rw [e, List.append_nil]
    exact hown
  cases ao with
  | none =>
    obtain rfl : cap = 0 := hnil rfl
    rcases hsrc with e | ⟨b, off, e, _⟩
    · obtain rfl : n = 0 := by rw [hn, e]; rfl
      have hrun := run_append_owned_none (P := Try.prog) (w := w) B 25 o.type 30 i0 4 Try.underlying25 hi v _ _ hown
      unfold Oper.wp
      simp [execOp, ho, resolve, invoke, builtin, hs, hx, hrun, Result.andThen]
      exact h v w (empty e rfl) ⟨rfl, rfl, rfl, Nat.le_refl _, fun _ _ _ => rfl⟩ (.inl rfl)
    · cases e
  | some ad =>
    obtain ⟨v', w', hr, h2, h3, _, h5⟩ := run_append_own_at (P := Try.prog) w B 25 o.type 30 i0 zeroV 4 48 Try.underlying25 hi hz0 hz1 hz2 hzs (by omega) v xs.length (xs.flatMap rv) hown ad n cap (zs.flatMap rv) (by rw [flat_len, hn]) (by
      rcases hsrc with e | ⟨b, off, e, hc⟩
      · rw [e]
        intro j u hu
        simp at hu
      · cases e
        exact fun j u hu => news_of hc j u hu) (one_cell zs) (by omega) hl hb
    unfold Oper.wp execOp
    simp only [ho, resolve, invoke, builtin, Sem.run_bind, Sem.run_pure, Result.andThen_ok, List.map_toArray, List.map_cons, List.map_nil, hs, hx, hr]
    refine h v' w' ?_ h3 h5
    unfold Own
    rw [List.flatMap_append, List.length_append, ← hn]
    exact h2
theorem wpList_append {ops : Array Oper} {rest : List Oper} {o : Oper} {a : Act} {Q : Exit → Act → World → Prop} (w : World) (hgd : o.guard = none) (s x : Operand)
    (ho : o.op = .call { callee := .builtin .append, args := #[s, x], argTypes := #[25, 25] })
    (B : Nat) (v : Value) (xs : List T) (hs : a.eval s = v) (hown : Own w B v xs)
    (ao : Option Addr) (n cap : Nat) (zs : List T) (hx : a.eval x = .slice ao n cap) (hn : n = zs.length) (hnil : ao = none → cap = 0) (hsrc : Seg w ao zs) (hl : (xs.length + n) * 48 ≤ 140737488355328) (hb : B ≤ w.heap.size)
    (h : ∀ v' w1, Own w1 B v' (xs ++ zs) → w.grownBy w1 v.ownBlock → (v'.ownBlock = v.ownBlock ∨ v'.ownBlock = some w.heap.size) → wpList Try.prog ops Q rest (a.put o.dst v') w1) : wpList Try.prog ops Q (o :: rest) a w :=
  wpList_plain hgd fun _ hK => wp_append w s x ho B v xs hs hown ao n cap zs hx hn hnil hsrc hl hb fun v' w1 h1 h2 h3 => hK _ _ (h v' w1 h1 h2 h3)
theorem own_ge {w : World} {B : Nat} {v : Value} {xs : List T} (h : Own w B v xs) : ∀ k, v.ownBlock = some k → B ≤ k := by
  intro k hk
  rcases h.2 with ⟨h', _⟩ | ⟨g, cap, cur, h', hb, _⟩
  · rw [h'] at hk
    cases hk
  · rw [h'] at hk
    simp only [Value.ownBlock, Option.some.injEq] at hk
    omega
theorem own_mono {w : World} {B C : Nat} {v : Value} {xs : List T} (h : Own w B v xs) (hc : C ≤ B) : Own w C v xs := by
  obtain ⟨h1, h2⟩ := h
  refine ⟨h1, ?_⟩
  rcases h2 with h2 | ⟨g, cap, cur, h', hb, h3⟩
  · exact .inl h2
  · exact .inr ⟨g, cap, cur, h', by omega, h3⟩
theorem own_empty {X : World} {B g : Nat} (hB : B ≤ g) (hg : X.heap[g]? = some (.cells #[] 30 (0, 0))) : Own X B (.slice (some ⟨g, 0, none⟩) 0 0) [] :=
  ⟨rfl, .inr ⟨g, 0, #[], rfl, hB, hg, Nat.le_refl _, Nat.zero_le _, rfl, rfl⟩⟩
theorem own_alloc {w : World} {B : Nat} {v : Value} {xs : List T} (h : Own w B v xs) (o : Obj) : Own (w.alloc o) B v xs := World.ownsRow.alloc h o
theorem own_drew {w : World} {B : Nat} {v : Value} {M : List T} (h : Own w B v M) : Own w.drew B v M := h
theorem own_below {w u : World} {B : Nat} {v : Value} {xs : List T} (h : Own w B v xs) (k : Below w.heap.size w u) : Own u B v xs := by
  obtain ⟨h1, h2⟩ := h
  refine ⟨h1, ?_⟩
  rcases h2 with h2 | ⟨g, cap, cur, h', hb, hg, h3⟩
  · exact .inl h2
  · refine .inr ⟨g, cap, cur, h', hb, ?_, h3⟩
    have hl : g < w.heap.size := by
      obtain ⟨hl, _⟩ := Array.getElem?_eq_some_iff.1 hg
      exact hl
    rw [k.block g hl]
    exact hg
/-- a row's block -/
def block (r : T) : Obj := .cells #[.string r.text, .string r.category, .int .i64 r.count, .int .i64 r.price] 30 (0, 0)
theorem seg_block {X : World} {g : Nat} {r : T} (h : X.heap[g]? = some (block r)) : Seg X (some ⟨g, 0, none⟩) [r] := by
  refine .inr ⟨g, 0, rfl, fun k hk => ?_⟩
  obtain rfl : k = 0 := by simpa using hk
  unfold block at h
  refine ⟨?_, ?_, ?_, ?_⟩
  all_goals rw [cell_of_row X g _ _ _ _ h]
  all_goals rfl
theorem step_append {ops : Array Oper} {o : Oper} {a : Act} {K : Act → World → Prop} {Q : Exit → Act → World → Prop} {E : Prop} (X x : World) (hX : Below x.heap.size x X) (hgd : o.guard = none) (s t : Operand)
    (ho : o.op = .call { callee := .builtin .append, args := #[s, t], argTypes := #[25, 25] })
    (v : Value) (xs : List T) (hs : a.eval s = v) (hown : Own X x.heap.size v xs)
    (ao : Option Addr) (n cap : Nat) (zs : List T) (ht : a.eval t = .slice ao n cap) (hn : n = zs.length) (hnil : ao = none → cap = 0) (hsrc : Seg X ao zs) (hl : xs.length + n ≤ 100000)
    (h : ∀ v' w1, Own w1 x.heap.size v' (xs ++ zs) → X.grownBy w1 v.ownBlock → Below x.heap.size x w1 → K (a.put o.dst v') w1) :
    if Region.wanted o (yielded ops a.tmps) = true then Oper.wp Try.prog o a X K Q else E := by
  have hw : Region.wanted o (yielded ops a.tmps) = true := by simp [Region.wanted, hgd]
  rw [if_pos hw]
  exact wp_append X s t ho x.heap.size v xs hs hown ao n cap zs ht hn hnil hsrc (by omega) hX.size fun v' w1 h1 h2 _ => h v' w1 h1 h2 (hX.grown h2 hX.size (own_ge hown))
end Go.Proofs.Ythcaecinjmnlbab.Ln

/- api.Line: make, copy, store: A WHOLE BLOCK OF ROWS THAT MAY BE WRITTEN. (By genrows.py.) -/
namespace Go.Proofs.Ythcaecinjmnlbab.Ln
open Go.RowKit
open Mem

/-- a whole block of rows, none of it frozen -/
def Block (w : World) (g : Nat) (ts : List T) : Prop := w.heap[g]? = some (.cells (ts.flatMap rv).toArray 30 (0, 0))
theorem Block.lt {w : World} {g : Nat} {ts : List T} (h : Block w g ts) : g < w.heap.size := by
  obtain ⟨hg, _⟩ := Array.getElem?_eq_some_iff.1 h
  exact hg
theorem Block.below {w u : World} {g : Nat} {ts : List T} (h : Block w g ts) (k : Below w.heap.size w u) : Block u g ts := (k.block g h.lt).trans h
theorem Block.row {w : World} {g : Nat} {ts : List T} (h : Block w g ts) (k : Nat) (hk : k < ts.length) : At w g (k * 4) ts[k] := by
  have hcell : ∀ p, p < 4 → w.cell? ⟨g, k * 4 + p, none⟩ = (rv ts[k])[p]? := by
    intro p hp
    rw [cell_of_row w g _ _ _ _ h, ← flat_at ts k p hk hp]
    simp
  exact ⟨hcell 0 (by omega), hcell 1 (by omega), hcell 2 (by omega), hcell 3 (by omega)⟩
theorem Block.frozen {w : World} {g : Nat} {ts : List T} (h : Block w g ts) (k : Nat) : w.frozen? ⟨g, k, none⟩ = false := frozen_of_row w g k _ _ h
theorem Block.ls {w : World} {g : Nat} {ts zs : List T} (h : Block w g (ts ++ zs)) (n cap : Nat) (hn : n = ts.length) (hc : n ≤ cap) (hm : cap ≤ 9223372036854775807) (hs : ∀ r ∈ ts, Short r) : Ls w (some ⟨g, 0, none⟩) n cap ts := by
  refine ⟨hn, hc, hm, (fun k => by cases k), .inr ⟨g, 0, rfl, fun k hk => ?_⟩, hs⟩
  have hr := h.row k (by rw [List.length_append]; omega)
  rw [List.getElem_append_left hk] at hr
  rw [Nat.zero_add]
  exact hr
def zeros (n : Nat) : Array Value := ((List.replicate n zero).flatMap rv).toArray
theorem sizeZ : (Try.prog.info? 30).map (·.size) = some 4 := by kernel_rfl
theorem made (n : Nat) : madeCells zeroV.cells (n * 4) = zeros n := by
  apply Array.ext_getElem?
  intro j
  by_cases hj : j < n * 4
  · obtain ⟨k, p, rfl, hp⟩ : ∃ k p, j = k * 4 + p ∧ p < 4 := ⟨j / 4, j % 4, by omega, by omega⟩
    have hk : k < n := by omega
    have hz : (zeros n)[k * 4 + p]? = (rv zero)[p]? := by
      unfold zeros
      rw [List.getElem?_toArray, flat_at (List.replicate n zero) k p (by simpa using hk) hp, List.getElem_replicate]
    rw [hz]
    have e : (k * 4 + p) % 4 = p := by omega
    have hp' : p = 0 ∨ p = 1 ∨ p = 2 ∨ p = 3 := by omega
    unfold madeCells
    rw [Array.getElem?_map, Array.getElem?_range, if_pos hj]
    simp only [Option.map_some]
    rw [show zeroV.cells.size = 4 from rfl, e]
    rcases hp' with rfl | rfl | rfl | rfl <;> rfl
  · rw [Array.getElem?_eq_none (by rw [size_madeCells]; omega), Array.getElem?_eq_none]
    unfold zeros
    rw [List.size_toArray, flat_len, List.length_replicate]
    omega
/-- make([]api.Line, n) -/
theorem make (n : Nat) (hn : n ≤ 100000) (u : World) : (Instr.makeSlice 25 (.int .i64 (n : Int)) (.int .i64 (n : Int))).run Try.prog u =
    .ok (.slice (some ⟨u.heap.size, 0, none⟩) n n) (u.alloc (.cells (zeros n) 30)) := by
  obtain ⟨i0, hi, hz0, hz1, hz2⟩ := info_parts info
  have h := run_make (P := Try.prog) u 25 30 i0 zeroV Try.underlying25 hi hz0 .i64 .i64 (n : Int) (n : Int) (by omega) (Int.le_refl _) (by rw [hz2]; omega) (by omega)
  rw [hz1, Int.toNat_natCast, made] at h
  exact h
theorem block_made (u : World) (n : Nat) : Block (u.alloc (.cells (zeros n) 30)) u.heap.size (List.replicate n zero) := heap_alloc_new u _
/-- copy(dst, src), dst a block of the call's own from its head on, no shorter than src -/
theorem copy (u : World) (g : Nat) (ts : List T) (dCap : Nat) (ao : Option Addr) (n cap : Nat) (rs : List T) (hb : Block u g (List.replicate n zero ++ ts)) (hn : n = rs.length) (hs : Seg u ao rs) :
    ∃ u', (Builtin.copy_ #[25, 25] 3 #[.slice (some ⟨g, 0, none⟩) (n + ts.length) dCap, .slice ao n cap]).run Try.prog u = .ok (goInt n) u' ∧ Block u' g (rs ++ ts) ∧ (∀ B w0, Below B w0 u → B ≤ g → Below B w0 u') ∧ u'.heap.size = u.heap.size := by
  obtain ⟨i0, hi, hiK⟩ := Option.map_eq_some_iff.1 sizeZ
  have hmin : Nat.min n (n + ts.length) = n := Nat.min_eq_left (by omega)
  rcases hs with e | ⟨b, off, rfl, hc⟩
  · subst e
    obtain rfl : n = 0 := hn
    refine ⟨u, ?_, by simpa using hb, fun _ _ h _ => h, rfl⟩
    have hl : ∀ (x : Addr), (loadCells x 0).run Try.prog u = .ok #[] u := fun x => by simpa using run_loadCells_list (P := Try.prog) u x [] (by simp)
    cases ao <;> simp [Builtin.copy_, run_underlying Try.underlying25, Builtin.lenOf, Builtin.firstCells, sizeOf, typeInfo, hi, storeCells, hl]
  · have hl := run_loadCells_list (P := Try.prog) u ⟨b, off, none⟩ (rs.flatMap rv) (fun j v hv => news_of hc j v hv)
    have hst := run_storeCells_at Try.prog g 0 30 (rs.flatMap rv) 0 _ u hb (by rw [List.size_toArray, flat_len, flat_len, List.length_append, List.length_replicate]; omega) (one_cell rs)
    have hlen : (rs.flatMap rv).length = n * 4 := by rw [flat_len, hn]
    have e : (((List.replicate n zero ++ ts).flatMap rv).toArray.toList.take (0 + 0) ++ rs.flatMap rv ++ ((List.replicate n zero ++ ts).flatMap rv).toArray.toList.drop (0 + 0 + (rs.flatMap rv).length)) = (rs ++ ts).flatMap rv := by
      rw [List.toList_toArray, List.take_zero, List.nil_append, Nat.zero_add, hlen, List.flatMap_append, List.flatMap_append, List.drop_left' (by rw [flat_len, List.length_replicate])]
    rw [e] at hst
    refine ⟨u.setRow g ((rs ++ ts).flatMap rv).toArray, ?_, setRow_heap u g _ _ 30 _ hb, fun B w0 h hB => below_setRow h hB _, by simp [World.setRow]⟩
    rw [hlen] at hl
    simp [Builtin.copy_, run_underlying Try.underlying25, Builtin.lenOf, Builtin.firstCells, sizeOf, typeInfo, hi, hiK, hmin, hl, hst]
theorem set_right {a : T} (X : List Value) (k p : Nat) (v : Value) : (rv a ++ X).set ((k + 1) * 4 + p) v = rv a ++ X.set (k * 4 + p) v := by
  rw [List.set_append_right _ _ (by rw [rv_len]; omega), rv_len, show (k + 1) * 4 + p - 4 = k * 4 + p by omega]
theorem flat_set : ∀ (ts : List T) (k : Nat) (r : T), k < ts.length → (ts.set k r).flatMap rv = (((((ts.flatMap rv).set (k * 4) (.string r.text)).set (k * 4 + 1) (.string r.category)).set (k * 4 + 2) (.int .i64 r.count)).set (k * 4 + 3) (.int .i64 r.price))
  | a :: l, 0, r, _ => rfl
  | a :: l, k + 1, r, h => by
    have ih := flat_set l k r (by simpa using h)
    have e0 := fun (X : List Value) (v : Value) => set_right (a := a) X k 0 v
    simp only [Nat.add_zero] at e0
    rw [List.set_cons_succ, List.flatMap_cons, ih, List.flatMap_cons, e0, set_right, set_right, set_right]
/-- a row stored -/
theorem Block.store {w : World} {g : Nat} {ts : List T} (h : Block w g ts) (k : Nat) (hk : k < ts.length) (r : T) :
    Block ((((w.setCell ⟨g, k * 4, none⟩ (.string r.text)).setCell ⟨g, k * 4 + 1, none⟩ (.string r.category)).setCell ⟨g, k * 4 + 2, none⟩ (.int .i64 r.count)).setCell ⟨g, k * 4 + 3, none⟩ (.int .i64 r.price)) g (ts.set k r) := by
  have h1 := heap_setCell_same _ g (k * 4) _ _ (.string r.text) h
  have h2 := heap_setCell_same _ g (k * 4 + 1) _ _ (.string r.category) h1
  have h3 := heap_setCell_same _ g (k * 4 + 2) _ _ (.int .i64 r.count) h2
  have h4 := heap_setCell_same _ g (k * 4 + 3) _ _ (.int .i64 r.price) h3
  unfold Block
  rw [h4, flat_set ts k r hk]
  simp only [List.setIfInBounds_toArray]
theorem below_store {B g : Nat} {w0 w : World} (h : Below B w0 w) (hg : B ≤ g) (k : Nat) (x0 x1 x2 x3 : Value) :
    Below B w0 ((((w.setCell ⟨g, k * 4, none⟩ x0).setCell ⟨g, k * 4 + 1, none⟩ x1).setCell ⟨g, k * 4 + 2, none⟩ x2).setCell ⟨g, k * 4 + 3, none⟩ x3) :=
  ((((h.setCell hg x0).setCell hg x1).setCell hg x2).setCell hg x3)
theorem own_store {w : World} {B g n cap : Nat} {M : List T} (h : Own w B (.slice (some ⟨g, 0, none⟩) n cap) M) (k : Nat) (hk : k < M.length) (r : T) :
    Own ((((w.setCell ⟨g, k * 4, none⟩ (.string r.text)).setCell ⟨g, k * 4 + 1, none⟩ (.string r.category)).setCell ⟨g, k * 4 + 2, none⟩ (.int .i64 r.count)).setCell ⟨g, k * 4 + 3, none⟩ (.int .i64 r.price)) B (.slice (some ⟨g, 0, none⟩) n cap) (M.set k r) := by
  rcases h.2 with ⟨h', _⟩ | ⟨g', cap', cur, h', hb, hg, hnc, hcm, hcs, htake⟩
  · cases h'
  · simp only [Value.slice.injEq, Option.some.injEq, Addr.mk.injEq, and_true] at h'
    obtain ⟨e1, e2, e3⟩ := h'
    subst e1 e3
    have h1 := heap_setCell_same _ g (k * 4) _ _ (.string r.text) hg
    have h2 := heap_setCell_same _ g (k * 4 + 1) _ _ (.string r.category) h1
    have h3 := heap_setCell_same _ g (k * 4 + 2) _ _ (.int .i64 r.count) h2
    have h4 := heap_setCell_same _ g (k * 4 + 3) _ _ (.int .i64 r.price) h3
    refine ⟨by rw [flat_len], .inr ⟨g, cap, _, by rw [List.length_set, e2], hb, h4, by rw [List.length_set]; exact hnc, hcm, by simpa using hcs, ?_⟩⟩
    rw [List.length_set, flat_set M k r hk]
    simp only [Array.toList_setIfInBounds]
    rw [← htake]
    simp only [List.take_set]
theorem own_at {w : World} {B g n cap : Nat} {M : List T} (h : Own w B (.slice (some ⟨g, 0, none⟩) n cap) M) (k : Nat) (hk : k < M.length) : At w g (k * 4) M[k] ∧ (∀ o, w.frozen? ⟨g, o, none⟩ = false) ∧ B ≤ g := by
  rcases h.2 with ⟨h', _⟩ | ⟨g', cap', cur, h', hb, hg, hnc, hcm, hcs, htake⟩
  · cases h'
  · simp only [Value.slice.injEq, Option.some.injEq, Addr.mk.injEq, and_true] at h'
    obtain ⟨e1, e2, e3⟩ := h'
    subst e1 e3
    have hcell : ∀ p, p < 4 → w.cell? ⟨g, k * 4 + p, none⟩ = (rv M[k])[p]? := by
      intro p hp
      rw [cell_of_row w g _ _ _ _ hg, ← flat_at M k p hk hp, ← htake, List.getElem?_take_of_lt (by omega)]
      simp
    exact ⟨⟨hcell 0 (by omega), hcell 1 (by omega), hcell 2 (by omega), hcell 3 (by omega)⟩, fun o => frozen_of_row w g o _ _ hg, hb⟩
theorem flat_put (r : T) (p : Nat) (x : Value) (hp : p < 4) : ∀ (M : List T) (k : Nat) (hk : k < M.length), rv r = (rv M[k]).set p x → (M.set k r).flatMap rv = (M.flatMap rv).set (k * 4 + p) x
  | a :: l, 0, _, h => by
    have h' : rv r = (rv a).set p x := h
    rw [List.set_cons_zero, List.flatMap_cons, List.flatMap_cons, Nat.zero_mul, Nat.zero_add, List.set_append_left _ _ (by rw [rv_len]; exact hp), h']
  | a :: l, k + 1, hk, h => by
    have ih := flat_put r p x hp l k (by simpa using hk) (by simpa using h)
    rw [List.set_cons_succ, List.flatMap_cons, List.flatMap_cons, List.set_append_right _ _ (by rw [rv_len]; omega), rv_len, show (k + 1) * 4 + p - 4 = k * 4 + p by omega, ih]
/-- one field of one row written -/
theorem own_put {w : World} {B g n cap : Nat} {M : List T} (h : Own w B (.slice (some ⟨g, 0, none⟩) n cap) M) (k p : Nat) (hk : k < M.length) (hp : p < 4) (x : Value) (r : T) (hr : rv r = (rv M[k]).set p x) :
    Own (w.setCell ⟨g, k * 4 + p, none⟩ x) B (.slice (some ⟨g, 0, none⟩) n cap) (M.set k r) := by
  rcases h.2 with ⟨h', _⟩ | ⟨g', cap', cur, h', hb, hg, hnc, hcm, hcs, htake⟩
  · cases h'
  · simp only [Value.slice.injEq, Option.some.injEq, Addr.mk.injEq, and_true] at h'
    obtain ⟨e1, e2, e3⟩ := h'
    subst e1 e3
    have h1 := heap_setCell_same _ g (k * 4 + p) _ _ x hg
    refine ⟨by rw [flat_len], .inr ⟨g, cap, _, by rw [List.length_set, e2], hb, h1, by rw [List.length_set]; exact hnc, hcm, by simpa using hcs, ?_⟩⟩
    rw [List.length_set, flat_put r p x hp M k hk hr]
    simp only [Array.toList_setIfInBounds]
    rw [← htake]
    simp only [List.take_set]
/-- a whole block is rows of the call's own -/
theorem own_of_block {w : World} {B g n : Nat} {M : List T} (h : Block w g M) (hB : B ≤ g) (hn : n = M.length) (hm : n ≤ 100000) : Own w B (.slice (some ⟨g, 0, none⟩) n n) M := by
  subst hn
  exact ⟨by rw [flat_len], .inr ⟨g, M.length, _, rfl, hB, h, Nat.le_refl _, by have : maxLen = 9223372036854775807 := rfl; omega, by rw [List.size_toArray, flat_len], List.take_of_length_le (by show (M.flatMap rv).length ≤ _; rw [flat_len]; exact Nat.le_refl _)⟩⟩
/-- a write into a block that it does not lie in -/
theorem own_far {w : World} {B : Nat} {v : Value} {M : List T} (h : Own w B v M) {b : Nat} (hne : b < B) (o : Nat) (x : Value) : Own (w.setCell ⟨b, o, none⟩ x) B v M := by
  obtain ⟨h1, h2⟩ := h
  refine ⟨h1, ?_⟩
  rcases h2 with h2 | ⟨g, cap, cur, h', hb, hg, h3⟩
  · exact .inl h2
  · exact .inr ⟨g, cap, cur, h', hb, by rw [heap_setCell_other w ⟨b, o, none⟩ g x (by show g ≠ b; omega)]; exact hg, h3⟩
/-- make([]api.Line, 0, n + 1) -/
theorem make_cap (n : Nat) (hn : n ≤ 1000) (u : World) : (Instr.makeSlice 25 (.int .i64 0) (.int .i64 ((n : Int) + 1))).run Try.prog u =
    .ok (.slice (some ⟨u.heap.size, 0, none⟩) 0 (n + 1)) (u.alloc (.cells (zeros (n + 1)) 30)) := by
  obtain ⟨i0, hi, hz0, hz1, hz2⟩ := info_parts info
  have h := run_make (P := Try.prog) u 25 30 i0 zeroV Try.underlying25 hi hz0 .i64 .i64 0 ((n : Int) + 1) (by omega) (by omega) (by rw [hz2]; omega) (by omega)
  rw [hz1, show ((n : Int) + 1).toNat = n + 1 from by omega, made] at h
  exact h
theorem own_cap (u : World) (B c : Nat) (hB : B ≤ u.heap.size) (hc : c ≤ 1000) : Own (u.alloc (.cells (zeros c) 30)) B (.slice (some ⟨u.heap.size, 0, none⟩) 0 c) [] :=
  ⟨rfl, .inr ⟨u.heap.size, c, zeros c, rfl, hB, heap_alloc_new u _, Nat.zero_le _, by have : maxLen = 9223372036854775807 := rfl; omega, by unfold zeros; rw [List.size_toArray, flat_len, List.length_replicate], rfl⟩⟩
end Go.Proofs.Ythcaecinjmnlbab.Ln

/- api.Line: CONTRACT OF THE BOOK OF MEMORY: Same. (By genrows.py.) -/
namespace Go.Proofs.Ythcaecinjmnlbab.Ln
open Go.RowKit
open Mem

open Go.Sort (grow)
def eqB (a b : T) : Bool := decide (a.text = b.text ∧ a.category = b.category ∧ a.count = b.count ∧ a.price = b.price)
theorem eqB_iff (a b : T) : eqB a b = true ↔ a = b := by
  unfold eqB
  rw [decide_eq_true_iff]
  cases a
  cases b
  simp
def sameB : List T → List T → Bool
  | [], [] => true
  | a :: l, b :: m => eqB a b && sameB l m
  | _, _ => false
theorem sameB_iff : ∀ l m : List T, sameB l m = true ↔ l = m
  | [], [] => by simp [sameB]
  | [], _ :: _ => by simp [sameB]
  | _ :: _, [] => by simp [sameB]
  | a :: l, b :: m => by
    rw [sameB, Bool.and_eq_true, eqB_iff, sameB_iff l m, List.cons.injEq]
theorem sameB_self (l : List T) : sameB l l = true := (sameB_iff l l).2 rfl
theorem sameB_len {l m : List T} (h : l.length ≠ m.length) : sameB l m = false := by
  rw [Bool.eq_false_iff]
  intro k
  exact h (congrArg List.length ((sameB_iff l m).1 k))
theorem same_at (l m : List T) (k : Nat) (h : k < l.length) (h' : k < m.length) : sameB (l.drop k) (m.drop k) = (eqB l[k] m[k] && sameB (l.drop (k + 1)) (m.drop (k + 1))) := by
  rw [List.drop_eq_getElem_cons h, List.drop_eq_getElem_cons h', sameB]
end Go.Proofs.Ythcaecinjmnlbab.Ln

/- api.Line: CONTRACTS OF THE BOOK OF MEMORY: Roomy, Intact. (By genrows.py.) -/
namespace Go.Proofs.Ythcaecinjmnlbab.Ln
open Go.RowKit
open Mem

open Go.Sort (grow)

theorem set_rest {L t : List T} {n k : Nat} {v : T} (hn : L.length = n) : (L ++ t).set (n + k) v = L ++ t.set k v := by
  subst hn
  rw [List.set_append_right _ _ (by omega), Nat.add_sub_cancel_left]
theorem take_set {t : List T} {k : Nat} {v : T} (hk : k < t.length) (h : t.take k = List.replicate k v) : (t.set k v).take (k + 1) = List.replicate (k + 1) v := by
  rw [List.take_succ_eq_append_getElem (by simpa using hk), List.take_set_of_le (Nat.le_refl k), h, List.replicate_succ']
  simp
theorem full_ls {w : World} {g n : Nat} {L : List T} {mark : T} (hB : Block w g (L ++ List.replicate 80 mark)) (hn : n = L.length) (hn9 : n ≤ 90000) (hs : ∀ r ∈ L, Short r) (hm : Short mark) : Ls w (some ⟨g, 0, none⟩) (n + 80) (n + 80) (L ++ List.replicate 80 mark) :=
  Block.ls (zs := []) (by rw [List.append_nil]; exact hB) _ _ (by rw [List.length_append, List.length_replicate, ← hn]) (Nat.le_refl _) (by omega) (fun r hr => by
    rcases List.mem_append.1 hr with hr | hr
    · exact hs r hr
    · rw [(List.mem_replicate.1 hr).2]; exact hm)
end Go.Proofs.Ythcaecinjmnlbab.Ln

/- api.Part: A ROW AS IT IS HANDED OVER, AND IN A BLOCK OF ITS OWN. (By genrows.py.) -/
namespace Go.Proofs.Ythcaecinjmnlbab.Pt
open Go.RowKit
open Mem

structure T where
  cat : ByteArray
  bp : Int
  net : Int
  tax : Int
/-- a row as it is handed over -/
def val (r : T) : Value := .agg #[.string r.cat, .int .i64 r.bp, .int .i64 r.net, .int .i64 r.tax]
/-- its numbers are numbers of 64 bits, its texts are not too long for any memory -/
def Short (r : T) : Prop := r.cat.size ≤ 140737488355328 ∧ Fit r.bp ∧ Fit r.net ∧ Fit r.tax
/-- a row's own place -/
def box (w : World) (r : T) : World := w.alloc (.cells #[.string r.cat, .int .i64 r.bp, .int .i64 r.net, .int .i64 r.tax] 55)
/-- a row lies in a block of its own -/
def C (u : World) (b : Nat) (r : T) : Prop :=
  u.cell? ⟨b, 0, none⟩ = some (.string r.cat) ∧ u.cell? ⟨b, 1, none⟩ = some (.int .i64 r.bp) ∧ u.cell? ⟨b, 2, none⟩ = some (.int .i64 r.net) ∧ u.cell? ⟨b, 3, none⟩ = some (.int .i64 r.tax)
theorem C.below {u v : World} {b : Nat} {r : T} (h : C u b r) (k : Below u.heap.size u v) : C v b r := by
  obtain ⟨h0, h1, h2, h3⟩ := h
  have hl := cell_lt h0
  unfold C
  rw [(bcell k).1 _ _ hl, (bcell k).1 _ _ hl, (bcell k).1 _ _ hl, (bcell k).1 _ _ hl]
  exact ⟨h0, h1, h2, h3⟩
theorem c_box (w : World) (r : T) : C (box w r) w.heap.size r := by
  unfold box C
  simp [go_sem]
theorem box_size (w : World) (r : T) : (box w r).heap.size = w.heap.size + 1 := by
  unfold box
  simp
theorem below_own (w : World) (r : T) : Below w.heap.size w (box w r) := (Below.refl _ _).alloc (Nat.le_refl _) _
theorem boxed1 (w : World) (a : T) : ∃ W, w.alloc (.cells #[.string a.cat, .int .i64 a.bp, .int .i64 a.net, .int .i64 a.tax] 55) = W ∧ Below w.heap.size w W ∧ C W w.heap.size a :=
  ⟨_, rfl, below_own w a, c_box w a⟩
theorem boxed2 (w : World) (a b : T) : ∃ W, (w.alloc (.cells #[.string a.cat, .int .i64 a.bp, .int .i64 a.net, .int .i64 a.tax] 55)).alloc (.cells #[.string b.cat, .int .i64 b.bp, .int .i64 b.net, .int .i64 b.tax] 55) = W ∧
    Below w.heap.size w W ∧ C W w.heap.size a ∧ C W (w.heap.size + 1) b := by
  refine ⟨_, rfl, ((below_own w a).trans ((below_own (box w a) b).mono (below_own w a).size)), (c_box w a).below (below_own _ b), ?_⟩
  have h := c_box (box w a) b
  rw [box_size] at h
  exact h
end Go.Proofs.Ythcaecinjmnlbab.Pt

/- api.Part: ROWS THAT LIE ONE BEHIND THE OTHER, AND PIECES OF THEM. (By genrows.py.) -/
namespace Go.Proofs.Ythcaecinjmnlbab.Pt
open Go.RowKit
open Mem

/-- a row lies at a place of a block -/
structure At (u : World) (b o : Nat) (r : T) : Prop where
  c0 : u.cell? ⟨b, o, none⟩ = some (.string r.cat)
  c1 : u.cell? ⟨b, o + 1, none⟩ = some (.int .i64 r.bp)
  c2 : u.cell? ⟨b, o + 2, none⟩ = some (.int .i64 r.net)
  c3 : u.cell? ⟨b, o + 3, none⟩ = some (.int .i64 r.tax)
theorem At.below {u v : World} {b o : Nat} {r : T} (h : At u b o r) (k : Below u.heap.size u v) : At v b o r := by
  have hl := cell_lt h.c0
  exact ⟨by rw [(bcell k).1 _ _ hl]; exact h.c0, by rw [(bcell k).1 _ _ hl]; exact h.c1, by rw [(bcell k).1 _ _ hl]; exact h.c2, by rw [(bcell k).1 _ _ hl]; exact h.c3⟩
/-- rows lie at an address -/
def Seg (w : World) (ao : Option Addr) (rs : List T) : Prop := rs = [] ∨ ∃ b off, ao = some ⟨b, off, none⟩ ∧ ∀ (k : Nat) (hk : k < rs.length), At w b (off + k * 4) rs[k]
theorem Seg.below {w v : World} {ao : Option Addr} {rs : List T} (h : Seg w ao rs) (k : Below w.heap.size w v) : Seg v ao rs := by
  rcases h with h | ⟨b, off, e, h⟩
  · exact .inl h
  · exact .inr ⟨b, off, e, fun i hi => (h i hi).below k⟩
/-- a slice of rows, as a contract takes it -/
structure Ls (w : World) (ao : Option Addr) (n cap : Nat) (rs : List T) : Prop where
  len : n = rs.length
  fits : n ≤ cap
  reach : cap ≤ 9223372036854775807
  nil : ao = none → cap = 0
  seg : Seg w ao rs
  short : ∀ r ∈ rs, Short r
theorem Ls.below {w v : World} {ao : Option Addr} {n cap : Nat} {rs : List T} (h : Ls w ao n cap rs) (k : Below w.heap.size w v) : Ls v ao n cap rs :=
  ⟨h.len, h.fits, h.reach, h.nil, h.seg.below k, h.short⟩
theorem Ls.at {w : World} {ao : Option Addr} {n cap : Nat} {rs : List T} (h : Ls w ao n cap rs) (hn : 0 < n) : ∃ b off, ao = some ⟨b, off, none⟩ := by
  rcases h.seg with e | ⟨b, off, e, _⟩
  · have := h.len
    rw [e] at this
    simp at this
    omega
  · exact ⟨b, off, e⟩
theorem Ls.row {w : World} {b off n cap : Nat} {rs : List T} (h : Ls w (some ⟨b, off, none⟩) n cap rs) (k : Nat) (hk : k < rs.length) : At w b (off + k * 4) rs[k] := by
  rcases h.seg with e | ⟨b', off', e, hs⟩
  · subst e
    simp at hk
  · cases e
    exact hs k hk
theorem ls_nil (w : World) : Ls w none 0 0 [] := ⟨rfl, Nat.le_refl _, by omega, fun _ => rfl, .inl rfl, by simp⟩
theorem und : Try.prog.underlying 32 = some (.slice (Try.prog.elem 32)) := by kernel_rfl
theorem size (u : World) : (sizeOf (Try.prog.elem 32)).run Try.prog u = .ok 4 u := by
  have h : (Try.prog.info? (Try.prog.elem 32)).map (·.size) = some 4 := by kernel_rfl
  obtain ⟨i, hi, hs⟩ := Option.map_eq_some_iff.1 h
  simp [sizeOf, typeInfo, hi, hs]
theorem Ls.to {w : World} {ao : Option Addr} {n cap : Nat} {rs : List T} (h : Ls w ao n cap rs) (k : Nat) (hk : k ≤ n) :
    (∀ u, (Instr.slice 32 (.slice ao n cap) none (some (.int .i64 (k : Int))) none).run Try.prog u = .ok (.slice ao k cap) u) ∧ Ls w ao k cap (rs.take k) := by
  have hl := h.len
  have hf := h.fits
  refine ⟨fun u => ?_, ⟨by rw [List.length_take]; omega, by omega, h.reach, h.nil, ?_, fun r hr => h.short r (List.mem_of_mem_take hr)⟩⟩
  · rw [run_slice_h u 32 ao n cap und .i64 k (by omega) (by omega), size]
    have e : Option.map (fun x : Addr => x.add 0) ao = ao := by cases ao <;> simp [Addr.add]
    simp [Result.andThen, sliced, e]
  · rcases h.seg with e | ⟨b, off, e, hc⟩
    · exact .inl (by rw [e]; simp)
    · refine .inr ⟨b, off, e, fun j hj => ?_⟩
      rw [List.length_take] at hj
      rw [List.getElem_take]
      exact hc j (by omega)
theorem Ls.from {w : World} {ao : Option Addr} {n cap : Nat} {rs : List T} (h : Ls w ao n cap rs) (k : Nat) (hk : k ≤ n) :
    ∃ ao2 cap2, (∀ u, (Instr.slice 32 (.slice ao n cap) (some (.int .i64 (k : Int))) none none).run Try.prog u = .ok (.slice ao2 (n - k) cap2) u) ∧ Ls w ao2 (n - k) cap2 (rs.drop k) := by
  have hl := h.len
  have hf := h.fits
  refine ⟨if cap = k then ao else ao.map (·.add (k * 4)), cap - k, fun u => ?_, ⟨by rw [List.length_drop]; omega, by omega, by have := h.reach; omega, ?_, ?_, fun r hr => h.short r (List.mem_of_mem_drop hr)⟩⟩
  · rw [run_slice_l u 32 ao n cap und .i64 k (by omega) (by omega), size]
    simp [Result.andThen, sliced]
  · by_cases e : cap = k
    · omega
    · rw [if_neg e]
      cases ao with
      | none => have := h.nil rfl; omega
      | some a => exact fun k => by cases k
  · by_cases hkn : k = n
    · exact .inl (List.drop_eq_nil_of_le (by omega))
    · rcases h.seg with e | ⟨b, off, rfl, hc⟩
      · exact .inl (by rw [e]; simp)
      · refine .inr ⟨b, off + k * 4, ?_, fun j hj => ?_⟩
        · rw [if_neg (by omega)]
          unfold Addr.add
          simp only [Option.map_some, Option.some.injEq]
          split
          · rename_i e
            rw [e]
            rfl
          · rfl
        · rw [List.length_drop] at hj
          rw [List.getElem_drop, show off + k * 4 + j * 4 = off + (k + j) * 4 by omega]
          exact hc (k + j) (by omega)
end Go.Proofs.Ythcaecinjmnlbab.Pt

/- api.Part: append(own, rows...): A LAW FOR THE WALK, at a plain list and at a step of a region that draws its order. (By genrows.py.) -/
namespace Go.Proofs.Ythcaecinjmnlbab.Pt
open Go.RowKit
open Mem

/-- a row's cells -/
def rv (r : T) : List Value := [.string r.cat, .int .i64 r.bp, .int .i64 r.net, .int .i64 r.tax]
theorem rv_len (r : T) : (rv r).length = 4 := rfl
theorem flat_len : ∀ rs : List T, (rs.flatMap rv).length = rs.length * 4
  | [] => rfl
  | r :: l => by
    rw [List.flatMap_cons, List.length_append, rv_len, flat_len l, List.length_cons]
    omega
theorem flat_at : ∀ (rs : List T) (k p : Nat) (hk : k < rs.length), p < 4 → (rs.flatMap rv)[k * 4 + p]? = (rv rs[k])[p]?
  | r :: l, 0, p, _, hp => by
    rw [List.flatMap_cons, List.getElem?_append_left (by rw [rv_len]; omega), Nat.zero_mul, Nat.zero_add]
    rfl
  | r :: l, k + 1, p, hk, hp => by
    rw [List.flatMap_cons, List.getElem?_append_right (by rw [rv_len]; omega), rv_len, show (k + 1) * 4 + p - 4 = k * 4 + p by omega]
    exact flat_at l k p (by simpa using hk) hp
theorem one_cell (rs : List T) : ∀ v ∈ rs.flatMap rv, v.oneCell' = true := by
  intro v hv
  obtain ⟨r, _, h⟩ := List.mem_flatMap.1 hv
  unfold rv at h
  simp only [List.mem_cons, List.not_mem_nil, or_false] at h
  rcases h with rfl | rfl | rfl | rfl <;> rfl
theorem news_of {w : World} {b off : Nat} {rs : List T} (h : ∀ (k : Nat) (hk : k < rs.length), At w b (off + k * 4) rs[k]) (j : Nat) (u : Value) (hu : (rs.flatMap rv)[j]? = some u) : w.cell? ((⟨b, off, none⟩ : Addr).add j) = some u := by
  have hj : j < (rs.flatMap rv).length := by
    obtain ⟨hj, _⟩ := List.getElem?_eq_some_iff.1 hu
    exact hj
  rw [flat_len] at hj
  obtain ⟨k, p, rfl, hp⟩ : ∃ k p, j = k * 4 + p ∧ p < 4 := ⟨j / 4, j % 4, by omega, by omega⟩
  have hk : k < rs.length := by omega
  rw [flat_at rs k p hk hp] at hu
  have ha : (⟨b, off, none⟩ : Addr).add (k * 4 + p) = ⟨b, off + k * 4 + p, none⟩ := by
    unfold Addr.add
    split
    · rename_i e
      simp only [Addr.mk.injEq, true_and, and_true]
      omega
    · simp only [Addr.mk.injEq, true_and, and_true]
      omega
  rw [ha]
  obtain ⟨c0, c1, c2, c3⟩ := h k hk
  have hp' : p = 0 ∨ p = 1 ∨ p = 2 ∨ p = 3 := by omega
  unfold rv at hu
  rcases hp' with rfl | rfl | rfl | rfl
  all_goals simp at hu
  all_goals subst hu
  · exact c0
  · exact c1
  · exact c2
  · exact c3
/-- rows of the call's own -/
def Own (w : World) (B : Nat) (v : Value) (xs : List T) : Prop := w.ownsRow B 55 4 v xs.length (xs.flatMap rv)
theorem own_nil (w : World) (B : Nat) : Own w B (.slice none 0 0) [] := ⟨rfl, .inl ⟨rfl, rfl⟩⟩
theorem own_ls {w : World} {B : Nat} {v : Value} {xs : List T} (h : Own w B v xs) (hs : ∀ r ∈ xs, Short r) : ∃ ao cap, v = .slice ao xs.length cap ∧ Ls w ao xs.length cap xs ∧ (∀ ad, ao = some ad → ∃ g, ad = ⟨g, 0, none⟩ ∧ B ≤ g) := by
  rcases h.2 with ⟨h', h2⟩ | ⟨g, cap, cur, h', hb, hg, hnc, hcm, hcs, htake⟩
  · have e : xs = [] := List.length_eq_zero_iff.1 h2
    subst e
    exact ⟨none, 0, h', ⟨rfl, Nat.le_refl _, by omega, fun _ => rfl, .inl rfl, hs⟩, fun ad k => by cases k⟩
  · refine ⟨some ⟨g, 0, none⟩, cap, h', ⟨rfl, hnc, hcm, fun k => (by cases k), .inr ⟨g, 0, rfl, fun k hk => ?_⟩, hs⟩, fun ad k => by cases k; exact ⟨g, rfl, hb⟩⟩
    have hcell : ∀ p, p < 4 → w.cell? ⟨g, 0 + k * 4 + p, none⟩ = (rv xs[k])[p]? := by
      intro p hp
      rw [Nat.zero_add, cell_of_row w g _ _ _ _ hg, ← flat_at xs k p hk hp, ← htake, List.getElem?_take_of_lt (by omega)]
      simp
    exact ⟨hcell 0 (by omega), hcell 1 (by omega), hcell 2 (by omega), hcell 3 (by omega)⟩
/-- the zero row -/
def zero : T := ⟨.empty, 0, 0, 0⟩
def zeroV : Value := .agg #[.string .empty, .int .i64 0, .int .i64 0, .int .i64 0]
theorem info : (Try.prog.info? 55).map (fun i => (i.zero, i.size, i.bytes)) = some (some zeroV, 4, 40) := by kernel_rfl
theorem wp_append {o : Oper} {a : Act} {K : Act → World → Prop} {Q : Exit → Act → World → Prop} (w : World) (s x : Operand)
    (ho : o.op = .call { callee := .builtin .append, args := #[s, x], argTypes := #[32, 32] })
    (B : Nat) (v : Value) (xs : List T) (hs : a.eval s = v) (hown : Own w B v xs)
    (ao : Option Addr) (n cap : Nat) (zs : List T) (hx : a.eval x = .slice ao n cap) (hn : n = zs.length) (hnil : ao = none → cap = 0) (hsrc : Seg w ao zs) (hl : (xs.length + n) * 40 ≤ 140737488355328) (hb : B ≤ w.heap.size)
    (h : ∀ v' w1, Own w1 B v' (xs ++ zs) → w.grownBy w1 v.ownBlock → (v'.ownBlock = v.ownBlock ∨ v'.ownBlock = some w.heap.size) → K (a.put o.dst v') w1) : o.wp Try.prog a w K Q := by
  have hzs : zeroV.cells.size = 4 := rfl
  obtain ⟨i0, hi, hz0, hz1, hz2⟩ := info_parts info
  have hmx : maxLen = 9223372036854775807 := rfl
  have empty : zs = [] → n = 0 → Own w B v (xs ++ zs) := by
    intro e _
    rw [e, List.append_nil]
    exact hown
  cases ao with
  | none =>
    obtain rfl : cap = 0 := hnil rfl
    rcases hsrc with e | ⟨b, off, e, _⟩
    · obtain rfl : n = 0 := by rw [hn, e]; rfl
      have hrun := run_append_owned_none (P := Try.prog) (w := w) B 32 o.type 55 i0 4 Try.underlying32 hi v _ _ hown
      unfold Oper.wp
      simp [execOp, ho, resolve, invoke, builtin, hs, hx, hrun, Result.andThen]
      exact h v w (empty e rfl) ⟨rfl, rfl, rfl, Nat.le_refl _, fun _ _ _ => rfl⟩ (.inl rfl)
    · cases e
  | some ad =>
    obtain ⟨v', w', hr, h2, h3, _, h5⟩ := run_append_own_at (P := Try.prog) w B 32 o.type 55 i0 zeroV 4 40 Try.underlying32 hi hz0 hz1 hz2 hzs (by omega) v xs.length (xs.flatMap rv) hown ad n cap (zs.flatMap rv) (by rw [flat_len, hn]) (by
      rcases hsrc with e | ⟨b, off, e, hc⟩
      · rw [e]
        intro j u hu
        simp at hu
      · cases e
        exact fun j u hu => news_of hc j u hu) (one_cell zs) (by omega) hl hb
    unfold Oper.wp execOp
    simp only [ho, resolve, invoke, builtin, Sem.run_bind, Sem.run_pure, Result.andThen_ok, List.map_toArray, List.map_cons, List.map_nil, hs, hx, hr]
    refine h v' w' ?_ h3 h5
    unfold Own
    rw [List.flatMap_append, List.length_append, ← hn]
    exact h2
theorem wpList_append {ops : Array Oper} {rest : List Oper} {o : Oper} {a : Act} {Q : Exit → Act → World → Prop} (w : World) (hgd : o.guard = none) (s x : Operand)
    (ho : o.op = .call { callee := .builtin .append, args := #[s, x], argTypes := #[32, 32] })
    (B : Nat) (v : Value) (xs : List T) (hs : a.eval s = v) (hown : Own w B v xs)
    (ao : Option Addr) (n cap : Nat) (zs : List T) (hx : a.eval x = .slice ao n cap) (hn : n = zs.length) (hnil : ao = none → cap = 0) (hsrc : Seg w ao zs) (hl : (xs.length + n) * 40 ≤ 140737488355328) (hb : B ≤ w.heap.size)
    (h : ∀ v' w1, Own w1 B v' (xs ++ zs) → w.grownBy w1 v.ownBlock → (v'.ownBlock = v.ownBlock ∨ v'.ownBlock = some w.heap.size) → wpList Try.prog ops Q rest (a.put o.dst v') w1) : wpList Try.prog ops Q (o :: rest) a w :=
  wpList_plain hgd fun _ hK => wp_append w s x ho B v xs hs hown ao n cap zs hx hn hnil hsrc hl hb fun v' w1 h1 h2 h3 => hK _ _ (h v' w1 h1 h2 h3)
theorem own_ge {w : World} {B : Nat} {v : Value} {xs : List T} (h : Own w B v xs) : ∀ k, v.ownBlock = some k → B ≤ k := by
  intro k hk
  rcases h.2 with ⟨h', _⟩ | ⟨g, cap, cur, h', hb, _⟩
  · rw [h'] at hk
    cases hk
  · rw [h'] at hk
    simp only [Value.ownBlock, Option.some.injEq] at hk
    omega
theorem own_mono {w : World} {B C : Nat} {v : Value} {xs : List T} (h : Own w B v xs) (hc : C ≤ B) : Own w C v xs := by
  obtain ⟨h1, h2⟩ := h
  refine ⟨h1, ?_⟩
  rcases h2 with h2 | ⟨g, cap, cur, h', hb, h3⟩
  · exact .inl h2
  · exact .inr ⟨g, cap, cur, h', by omega, h3⟩
theorem own_empty {X : World} {B g : Nat} (hB : B ≤ g) (hg : X.heap[g]? = some (.cells #[] 55 (0, 0))) : Own X B (.slice (some ⟨g, 0, none⟩) 0 0) [] :=
  ⟨rfl, .inr ⟨g, 0, #[], rfl, hB, hg, Nat.le_refl _, Nat.zero_le _, rfl, rfl⟩⟩
theorem own_alloc {w : World} {B : Nat} {v : Value} {xs : List T} (h : Own w B v xs) (o : Obj) : Own (w.alloc o) B v xs := World.ownsRow.alloc h o
theorem own_drew {w : World} {B : Nat} {v : Value} {M : List T} (h : Own w B v M) : Own w.drew B v M := h
theorem own_below {w u : World} {B : Nat} {v : Value} {xs : List T} (h : Own w B v xs) (k : Below w.heap.size w u) : Own u B v xs := by
  obtain ⟨h1, h2⟩ := h
  refine ⟨h1, ?_⟩
  rcases h2 with h2 | ⟨g, cap, cur, h', hb, hg, h3⟩
  · exact .inl h2
  · refine .inr ⟨g, cap, cur, h', hb, ?_, h3⟩
    have hl : g < w.heap.size := by
      obtain ⟨hl, _⟩ := Array.getElem?_eq_some_iff.1 hg
      exact hl
    rw [k.block g hl]
    exact hg
/-- a row's block -/
def block (r : T) : Obj := .cells #[.string r.cat, .int .i64 r.bp, .int .i64 r.net, .int .i64 r.tax] 55 (0, 0)
theorem seg_block {X : World} {g : Nat} {r : T} (h : X.heap[g]? = some (block r)) : Seg X (some ⟨g, 0, none⟩) [r] := by
  refine .inr ⟨g, 0, rfl, fun k hk => ?_⟩
  obtain rfl : k = 0 := by simpa using hk
  unfold block at h
  refine ⟨?_, ?_, ?_, ?_⟩
  all_goals rw [cell_of_row X g _ _ _ _ h]
  all_goals rfl
theorem step_append {ops : Array Oper} {o : Oper} {a : Act} {K : Act → World → Prop} {Q : Exit → Act → World → Prop} {E : Prop} (X x : World) (hX : Below x.heap.size x X) (hgd : o.guard = none) (s t : Operand)
    (ho : o.op = .call { callee := .builtin .append, args := #[s, t], argTypes := #[32, 32] })
    (v : Value) (xs : List T) (hs : a.eval s = v) (hown : Own X x.heap.size v xs)
    (ao : Option Addr) (n cap : Nat) (zs : List T) (ht : a.eval t = .slice ao n cap) (hn : n = zs.length) (hnil : ao = none → cap = 0) (hsrc : Seg X ao zs) (hl : xs.length + n ≤ 100000)
    (h : ∀ v' w1, Own w1 x.heap.size v' (xs ++ zs) → X.grownBy w1 v.ownBlock → Below x.heap.size x w1 → K (a.put o.dst v') w1) :
    if Region.wanted o (yielded ops a.tmps) = true then Oper.wp Try.prog o a X K Q else E := by
  have hw : Region.wanted o (yielded ops a.tmps) = true := by simp [Region.wanted, hgd]
  rw [if_pos hw]
  exact wp_append X s t ho x.heap.size v xs hs hown ao n cap zs ht hn hnil hsrc (by omega) hX.size fun v' w1 h1 h2 _ => h v' w1 h1 h2 (hX.grown h2 hX.size (own_ge hown))
end Go.Proofs.Ythcaecinjmnlbab.Pt

/- api.Part: make, copy, store: A WHOLE BLOCK OF ROWS THAT MAY BE WRITTEN. (By genrows.py.) -/
namespace Go.Proofs.Ythcaecinjmnlbab.Pt
open Go.RowKit
open Mem

/-- a whole block of rows, none of it frozen -/
def Block (w : World) (g : Nat) (ts : List T) : Prop := w.heap[g]? = some (.cells (ts.flatMap rv).toArray 55 (0, 0))
theorem Block.lt {w : World} {g : Nat} {ts : List T} (h : Block w g ts) : g < w.heap.size := by
  obtain ⟨hg, _⟩ := Array.getElem?_eq_some_iff.1 h
  exact hg
theorem Block.below {w u : World} {g : Nat} {ts : List T} (h : Block w g ts) (k : Below w.heap.size w u) : Block u g ts := (k.block g h.lt).trans h
theorem Block.row {w : World} {g : Nat} {ts : List T} (h : Block w g ts) (k : Nat) (hk : k < ts.length) : At w g (k * 4) ts[k] := by
  have hcell : ∀ p, p < 4 → w.cell? ⟨g, k * 4 + p, none⟩ = (rv ts[k])[p]? := by
    intro p hp
    rw [cell_of_row w g _ _ _ _ h, ← flat_at ts k p hk hp]
    simp
  exact ⟨hcell 0 (by omega), hcell 1 (by omega), hcell 2 (by omega), hcell 3 (by omega)⟩
theorem Block.frozen {w : World} {g : Nat} {ts : List T} (h : Block w g ts) (k : Nat) : w.frozen? ⟨g, k, none⟩ = false := frozen_of_row w g k _ _ h
theorem Block.ls {w : World} {g : Nat} {ts zs : List T} (h : Block w g (ts ++ zs)) (n cap : Nat) (hn : n = ts.length) (hc : n ≤ cap) (hm : cap ≤ 9223372036854775807) (hs : ∀ r ∈ ts, Short r) : Ls w (some ⟨g, 0, none⟩) n cap ts := by
  refine ⟨hn, hc, hm, (fun k => by cases k), .inr ⟨g, 0, rfl, fun k hk => ?_⟩, hs⟩
  have hr := h.row k (by rw [List.length_append]; omega)
  rw [List.getElem_append_left hk] at hr
  rw [Nat.zero_add]
  exact hr
def zeros (n : Nat) : Array Value := ((List.replicate n zero).flatMap rv).toArray
theorem sizeZ : (Try.prog.info? 55).map (·.size) = some 4 := by kernel_rfl
theorem made (n : Nat) : madeCells zeroV.cells (n * 4) = zeros n := by
  apply Array.ext_getElem?
  intro j
  by_cases hj : j < n * 4
  · obtain ⟨k, p, rfl, hp⟩ : ∃ k p, j = k * 4 + p ∧ p < 4 := ⟨j / 4, j % 4, by omega, by omega⟩
    have hk : k < n := by omega
    have hz : (zeros n)[k * 4 + p]? = (rv zero)[p]? := by
      unfold zeros
      rw [List.getElem?_toArray, flat_at (List.replicate n zero) k p (by simpa using hk) hp, List.getElem_replicate]
    rw [hz]
    have e : (k * 4 + p) % 4 = p := by omega
    have hp' : p = 0 ∨ p = 1 ∨ p = 2 ∨ p = 3 := by omega
    unfold madeCells
    rw [Array.getElem?_map, Array.getElem?_range, if_pos hj]
    simp only [Option.map_some]
    rw [show zeroV.cells.size = 4 from rfl, e]
    rcases hp' with rfl | rfl | rfl | rfl <;> rfl
  · rw [Array.getElem?_eq_none (by rw [size_madeCells]; omega), Array.getElem?_eq_none]
    unfold zeros
    rw [List.size_toArray, flat_len, List.length_replicate]
    omega
/-- make([]api.Part, n) -/
theorem make (n : Nat) (hn : n ≤ 100000) (u : World) : (Instr.makeSlice 32 (.int .i64 (n : Int)) (.int .i64 (n : Int))).run Try.prog u =
    .ok (.slice (some ⟨u.heap.size, 0, none⟩) n n) (u.alloc (.cells (zeros n) 55)) := by
  obtain ⟨i0, hi, hz0, hz1, hz2⟩ := info_parts info
  have h := run_make (P := Try.prog) u 32 55 i0 zeroV Try.underlying32 hi hz0 .i64 .i64 (n : Int) (n : Int) (by omega) (Int.le_refl _) (by rw [hz2]; omega) (by omega)
  rw [hz1, Int.toNat_natCast, made] at h
  exact h
theorem block_made (u : World) (n : Nat) : Block (u.alloc (.cells (zeros n) 55)) u.heap.size (List.replicate n zero) := heap_alloc_new u _
/-- copy(dst, src), dst a block of the call's own from its head on, no shorter than src -/
theorem copy (u : World) (g : Nat) (ts : List T) (dCap : Nat) (ao : Option Addr) (n cap : Nat) (rs : List T) (hb : Block u g (List.replicate n zero ++ ts)) (hn : n = rs.length) (hs : Seg u ao rs) :
    ∃ u', (Builtin.copy_ #[32, 32] 3 #[.slice (some ⟨g, 0, none⟩) (n + ts.length) dCap, .slice ao n cap]).run Try.prog u = .ok (goInt n) u' ∧ Block u' g (rs ++ ts) ∧ (∀ B w0, Below B w0 u → B ≤ g → Below B w0 u') ∧ u'.heap.size = u.heap.size := by
  obtain ⟨i0, hi, hiK⟩ := Option.map_eq_some_iff.1 sizeZ
  have hmin : Nat.min n (n + ts.length) = n := Nat.min_eq_left (by omega)
  rcases hs with e | ⟨b, off, rfl, hc⟩
  · subst e
    obtain rfl : n = 0 := hn
    refine ⟨u, ?_, by simpa using hb, fun _ _ h _ => h, rfl⟩
    have hl : ∀ (x : Addr), (loadCells x 0).run Try.prog u = .ok #[] u := fun x => by simpa using run_loadCells_list (P := Try.prog) u x [] (by simp)
    cases ao <;> simp [Builtin.copy_, run_underlying Try.underlying32, Builtin.lenOf, Builtin.firstCells, sizeOf, typeInfo, hi, storeCells, hl]
  · have hl := run_loadCells_list (P := Try.prog) u ⟨b, off, none⟩ (rs.flatMap rv) (fun j v hv => news_of hc j v hv)
    have hst := run_storeCells_at Try.prog g 0 55 (rs.flatMap rv) 0 _ u hb (by rw [List.size_toArray, flat_len, flat_len, List.length_append, List.length_replicate]; omega) (one_cell rs)
    have hlen : (rs.flatMap rv).length = n * 4 := by rw [flat_len, hn]
    have e : (((List.replicate n zero ++ ts).flatMap rv).toArray.toList.take (0 + 0) ++ rs.flatMap rv ++ ((List.replicate n zero ++ ts).flatMap rv).toArray.toList.drop (0 + 0 + (rs.flatMap rv).length)) = (rs ++ ts).flatMap rv := by
      rw [List.toList_toArray, List.take_zero, List.nil_append, Nat.zero_add, hlen, List.flatMap_append, List.flatMap_append, List.drop_left' (by rw [flat_len, List.length_replicate])]
    rw [e] at hst
    refine ⟨u.setRow g ((rs ++ ts).flatMap rv).toArray, ?_, setRow_heap u g _ _ 55 _ hb, fun B w0 h hB => below_setRow h hB _, by simp [World.setRow]⟩
    rw [hlen] at hl
    simp [Builtin.copy_, run_underlying Try.underlying32, Builtin.lenOf, Builtin.firstCells, sizeOf, typeInfo, hi, hiK, hmin, hl, hst]
theorem set_right {a : T} (X : List Value) (k p : Nat) (v : Value) : (rv a ++ X).set ((k + 1) * 4 + p) v = rv a ++ X.set (k * 4 + p) v := by
  rw [List.set_append_right _ _ (by rw [rv_len]; omega), rv_len, show (k + 1) * 4 + p - 4 = k * 4 + p by omega]
theorem flat_set : ∀ (ts : List T) (k : Nat) (r : T), k < ts.length → (ts.set k r).flatMap rv = (((((ts.flatMap rv).set (k * 4) (.string r.cat)).set (k * 4 + 1) (.int .i64 r.bp)).set (k * 4 + 2) (.int .i64 r.net)).set (k * 4 + 3) (.int .i64 r.tax))
  | a :: l, 0, r, _ => rfl
  | a :: l, k + 1, r, h => by
    have ih := flat_set l k r (by simpa using h)
    have e0 := fun (X : List Value) (v : Value) => set_right (a := a) X k 0 v
    simp only [Nat.add_zero] at e0
    rw [List.set_cons_succ, List.flatMap_cons, ih, List.flatMap_cons, e0, set_right, set_right, set_right]
/-- a row stored -/
theorem Block.store {w : World} {g : Nat} {ts : List T} (h : Block w g ts) (k : Nat) (hk : k < ts.length) (r : T) :
    Block ((((w.setCell ⟨g, k * 4, none⟩ (.string r.cat)).setCell ⟨g, k * 4 + 1, none⟩ (.int .i64 r.bp)).setCell ⟨g, k * 4 + 2, none⟩ (.int .i64 r.net)).setCell ⟨g, k * 4 + 3, none⟩ (.int .i64 r.tax)) g (ts.set k r) := by
  have h1 := heap_setCell_same _ g (k * 4) _ _ (.string r.cat) h
  have h2 := heap_setCell_same _ g (k * 4 + 1) _ _ (.int .i64 r.bp) h1
  have h3 := heap_setCell_same _ g (k * 4 + 2) _ _ (.int .i64 r.net) h2
  have h4 := heap_setCell_same _ g (k * 4 + 3) _ _ (.int .i64 r.tax) h3
  unfold Block
  rw [h4, flat_set ts k r hk]
  simp only [List.setIfInBounds_toArray]
theorem below_store {B g : Nat} {w0 w : World} (h : Below B w0 w) (hg : B ≤ g) (k : Nat) (x0 x1 x2 x3 : Value) :
    Below B w0 ((((w.setCell ⟨g, k * 4, none⟩ x0).setCell ⟨g, k * 4 + 1, none⟩ x1).setCell ⟨g, k * 4 + 2, none⟩ x2).setCell ⟨g, k * 4 + 3, none⟩ x3) :=
  ((((h.setCell hg x0).setCell hg x1).setCell hg x2).setCell hg x3)
theorem own_store {w : World} {B g n cap : Nat} {M : List T} (h : Own w B (.slice (some ⟨g, 0, none⟩) n cap) M) (k : Nat) (hk : k < M.length) (r : T) :
    Own ((((w.setCell ⟨g, k * 4, none⟩ (.string r.cat)).setCell ⟨g, k * 4 + 1, none⟩ (.int .i64 r.bp)).setCell ⟨g, k * 4 + 2, none⟩ (.int .i64 r.net)).setCell ⟨g, k * 4 + 3, none⟩ (.int .i64 r.tax)) B (.slice (some ⟨g, 0, none⟩) n cap) (M.set k r) := by
  rcases h.2 with ⟨h', _⟩ | ⟨g', cap', cur, h', hb, hg, hnc, hcm, hcs, htake⟩
  · cases h'
  · simp only [Value.slice.injEq, Option.some.injEq, Addr.mk.injEq, and_true] at h'
    obtain ⟨e1, e2, e3⟩ := h'
    subst e1 e3
    have h1 := heap_setCell_same _ g (k * 4) _ _ (.string r.cat) hg
    have h2 := heap_setCell_same _ g (k * 4 + 1) _ _ (.int .i64 r.bp) h1
    have h3 := heap_setCell_same _ g (k * 4 + 2) _ _ (.int .i64 r.net) h2
    have h4 := heap_setCell_same _ g (k * 4 + 3) _ _ (.int .i64 r.tax) h3
    refine ⟨by rw [flat_len], .inr ⟨g, cap, _, by rw [List.length_set, e2], hb, h4, by rw [List.length_set]; exact hnc, hcm, by simpa using hcs, ?_⟩⟩
    rw [List.length_set, flat_set M k r hk]
    simp only [Array.toList_setIfInBounds]
    rw [← htake]
    simp only [List.take_set]
theorem own_at {w : World} {B g n cap : Nat} {M : List T} (h : Own w B (.slice (some ⟨g, 0, none⟩) n cap) M) (k : Nat) (hk : k < M.length) : At w g (k * 4) M[k] ∧ (∀ o, w.frozen? ⟨g, o, none⟩ = false) ∧ B ≤ g := by
  rcases h.2 with ⟨h', _⟩ | ⟨g', cap', cur, h', hb, hg, hnc, hcm, hcs, htake⟩
  · cases h'
  · simp only [Value.slice.injEq, Option.some.injEq, Addr.mk.injEq, and_true] at h'
    obtain ⟨e1, e2, e3⟩ := h'
    subst e1 e3
    have hcell : ∀ p, p < 4 → w.cell? ⟨g, k * 4 + p, none⟩ = (rv M[k])[p]? := by
      intro p hp
      rw [cell_of_row w g _ _ _ _ hg, ← flat_at M k p hk hp, ← htake, List.getElem?_take_of_lt (by omega)]
      simp
    exact ⟨⟨hcell 0 (by omega), hcell 1 (by omega), hcell 2 (by omega), hcell 3 (by omega)⟩, fun o => frozen_of_row w g o _ _ hg, hb⟩
theorem flat_put (r : T) (p : Nat) (x : Value) (hp : p < 4) : ∀ (M : List T) (k : Nat) (hk : k < M.length), rv r = (rv M[k]).set p x → (M.set k r).flatMap rv = (M.flatMap rv).set (k * 4 + p) x
  | a :: l, 0, _, h => by
    have h' : rv r = (rv a).set p x := h
    rw [List.set_cons_zero, List.flatMap_cons, List.flatMap_cons, Nat.zero_mul, Nat.zero_add, List.set_append_left _ _ (by rw [rv_len]; exact hp), h']
  | a :: l, k + 1, hk, h => by
    have ih := flat_put r p x hp l k (by simpa using hk) (by simpa using h)
    rw [List.set_cons_succ, List.flatMap_cons, List.flatMap_cons, List.set_append_right _ _ (by rw [rv_len]; omega), rv_len, show (k + 1) * 4 + p - 4 = k * 4 + p by omega, ih]
/-- one field of one row written -/
theorem own_put {w : World} {B g n cap : Nat} {M : List T} (h : Own w B (.slice (some ⟨g, 0, none⟩) n cap) M) (k p : Nat) (hk : k < M.length) (hp : p < 4) (x : Value) (r : T) (hr : rv r = (rv M[k]).set p x) :
    Own (w.setCell ⟨g, k * 4 + p, none⟩ x) B (.slice (some ⟨g, 0, none⟩) n cap) (M.set k r) := by
  rcases h.2 with ⟨h', _⟩ | ⟨g', cap', cur, h', hb, hg, hnc, hcm, hcs, htake⟩
  · cases h'
  · simp only [Value.slice.injEq, Option.some.injEq, Addr.mk.injEq, and_true] at h'
    obtain ⟨e1, e2, e3⟩ := h'
    subst e1 e3
    have h1 := heap_setCell_same _ g (k * 4 + p) _ _ x hg
    refine ⟨by rw [flat_len], .inr ⟨g, cap, _, by rw [List.length_set, e2], hb, h1, by rw [List.length_set]; exact hnc, hcm, by simpa using hcs, ?_⟩⟩
    rw [List.length_set, flat_put r p x hp M k hk hr]
    simp only [Array.toList_setIfInBounds]
    rw [← htake]
    simp only [List.take_set]
/-- a whole block is rows of the call's own -/
theorem own_of_block {w : World} {B g n : Nat} {M : List T} (h : Block w g M) (hB : B ≤ g) (hn : n = M.length) (hm : n ≤ 100000) : Own w B (.slice (some ⟨g, 0, none⟩) n n) M := by
  subst hn
  exact ⟨by rw [flat_len], .inr ⟨g, M.length, _, rfl, hB, h, Nat.le_refl _, by have : maxLen = 9223372036854775807 := rfl; omega, by rw [List.size_toArray, flat_len], List.take_of_length_le (by show (M.flatMap rv).length ≤ _; rw [flat_len]; exact Nat.le_refl _)⟩⟩
/-- a write into a block that it does not lie in -/
theorem own_far {w : World} {B : Nat} {v : Value} {M : List T} (h : Own w B v M) {b : Nat} (hne : b < B) (o : Nat) (x : Value) : Own (w.setCell ⟨b, o, none⟩ x) B v M := by
  obtain ⟨h1, h2⟩ := h
  refine ⟨h1, ?_⟩
  rcases h2 with h2 | ⟨g, cap, cur, h', hb, hg, h3⟩
  · exact .inl h2
  · exact .inr ⟨g, cap, cur, h', hb, by rw [heap_setCell_other w ⟨b, o, none⟩ g x (by show g ≠ b; omega)]; exact hg, h3⟩
/-- make([]api.Part, 0, n + 1) -/
theorem make_cap (n : Nat) (hn : n ≤ 1000) (u : World) : (Instr.makeSlice 32 (.int .i64 0) (.int .i64 ((n : Int) + 1))).run Try.prog u =
    .ok (.slice (some ⟨u.heap.size, 0, none⟩) 0 (n + 1)) (u.alloc (.cells (zeros (n + 1)) 55)) := by
  obtain ⟨i0, hi, hz0, hz1, hz2⟩ := info_parts info
  have h := run_make (P := Try.prog) u 32 55 i0 zeroV Try.underlying32 hi hz0 .i64 .i64 0 ((n : Int) + 1) (by omega) (by omega) (by rw [hz2]; omega) (by omega)
  rw [hz1, show ((n : Int) + 1).toNat = n + 1 from by omega, made] at h
  exact h
theorem own_cap (u : World) (B c : Nat) (hB : B ≤ u.heap.size) (hc : c ≤ 1000) : Own (u.alloc (.cells (zeros c) 55)) B (.slice (some ⟨u.heap.size, 0, none⟩) 0 c) [] :=
  ⟨rfl, .inr ⟨u.heap.size, c, zeros c, rfl, hB, heap_alloc_new u _, Nat.zero_le _, by have : maxLen = 9223372036854775807 := rfl; omega, by unfold zeros; rw [List.size_toArray, flat_len, List.length_replicate], rfl⟩⟩
end Go.Proofs.Ythcaecinjmnlbab.Pt

/- api.Part: CONTRACT OF THE BOOK OF MEMORY: Same. (By genrows.py.) -/
namespace Go.Proofs.Ythcaecinjmnlbab.Pt
open Go.RowKit
open Mem

open Go.Sort (grow)
def eqB (a b : T) : Bool := decide (a.cat = b.cat ∧ a.bp = b.bp ∧ a.net = b.net ∧ a.tax = b.tax)
theorem eqB_iff (a b : T) : eqB a b = true ↔ a = b := by
  unfold eqB
  rw [decide_eq_true_iff]
  cases a
  cases b
  simp
def sameB : List T → List T → Bool
  | [], [] => true
  | a :: l, b :: m => eqB a b && sameB l m
  | _, _ => false
theorem sameB_iff : ∀ l m : List T, sameB l m = true ↔ l = m
  | [], [] => by simp [sameB]
  | [], _ :: _ => by simp [sameB]
  | _ :: _, [] => by simp [sameB]
  | a :: l, b :: m => by
    rw [sameB, Bool.and_eq_true, eqB_iff, sameB_iff l m, List.cons.injEq]
theorem sameB_self (l : List T) : sameB l l = true := (sameB_iff l l).2 rfl
theorem sameB_len {l m : List T} (h : l.length ≠ m.length) : sameB l m = false := by
  rw [Bool.eq_false_iff]
  intro k
  exact h (congrArg List.length ((sameB_iff l m).1 k))
theorem same_at (l m : List T) (k : Nat) (h : k < l.length) (h' : k < m.length) : sameB (l.drop k) (m.drop k) = (eqB l[k] m[k] && sameB (l.drop (k + 1)) (m.drop (k + 1))) := by
  rw [List.drop_eq_getElem_cons h, List.drop_eq_getElem_cons h', sameB]
set_option maxHeartbeats 4000000 in
theorem same_any (xs ys : List T) (ao bo : Option Addr) (n m ca cb : Nat) (w0 w : World) (hw : Below w0.heap.size w0 w) (hA : Ls w ao n ca xs) (hB : Ls w bo m cb ys) :
    Calls Try.prog 20 #[.slice ao n ca, .slice bo m cb] w fun e w' => e = .returned (.bool (sameB xs ys)) ∧ Below w0.heap.size w0 w' := by
  have HW := Lib.hid hw
  have HA := Lib.hid hA
  have HB := Lib.hid hB
  have HN := Lib.hid hA.len
  have HM := Lib.hid hB.len
  have hca := hA.reach
  have hfa := hA.fits
  have hcb := hB.reach
  have hfb := hB.fits
  clear hw hA hB
  by_cases hnm : n = m
  · subst hnm
    have hne : ((n : Int) != (n : Int)) = false := bne_self_eq_false _
    go_enter Try.func20, Try.ntmps20
    go_wp2
    go_loopw [5] (fun i wr => ∃ k : Nat, k ≤ n ∧ i = .int .i64 k ∧ Hid (sameB (xs.drop k) (ys.drop k) = sameB xs ys) ∧ Hid (Below w.heap.size w wr)) (fun i _ => n - (intOf i).toNat)
    case atStart => exact ⟨0, Nat.zero_le _, rfl, Lib.hid rfl, Lib.hid (Below.refl _ _)⟩
    case round =>
      obtain ⟨k, hk, rfl, HK, HBz⟩ := hrel
      by_cases hlt : k < n
      · obtain ⟨a, oa, rfl⟩ := HA.out.at (by omega)
        obtain ⟨b, ob, rfl⟩ := HB.out.at (by omega)
        have hkr : k < xs.length := HN.out ▸ hlt
        have hks : k < ys.length := HM.out ▸ hlt
        have HSt := Lib.hid (same_at xs ys k hkr hks)
        obtain ⟨r, hr⟩ : ∃ r, xs[k] = r := ⟨_, rfl⟩
        obtain ⟨s, hs⟩ : ∃ s, ys[k] = s := ⟨_, rfl⟩
        have h1 := (HA.out.row k hkr).below HBz.out
        have h2 := (HB.out.row k hks).below HBz.out
        rw [hr] at h1 HSt
        rw [hs] at h2 HSt
        clear hr hs
        obtain ⟨g0, g1, g2, g3⟩ := h1
        obtain ⟨f0, f1, f2, f3⟩ := h2
        have g0' := cell_regrown g0
        have g1' := cell_regrown g1
        have g2' := cell_regrown g2
        have g3' := cell_regrown g3
        have f0' := cell_regrown f0
        have f1' := cell_regrown f1
        have f2' := cell_regrown f2
        have f3' := cell_regrown f3
        clear g0 g1 g2 g3 f0 f1 f2 f3
        by_cases e0 : r.cat = s.cat
        · have q0 : (r.cat.toList == s.cat.toList) = true := beq_iff_eq.2 (by rw [e0])
          by_cases e1 : r.bp = s.bp
          · have q1 : (r.bp == s.bp) = true := beq_iff_eq.2 e1
            by_cases e2 : r.net = s.net
            · have q2 : (r.net == s.net) = true := beq_iff_eq.2 e2
              by_cases e3 : r.tax = s.tax
              · have q3 : (r.tax == s.tax) = true := beq_iff_eq.2 e3
                have HE : Hid (eqB r s = true) := Lib.hid (decide_eq_true ⟨e0, e1, e2, e3⟩)
                clear e0 e1 e2 e3
                go_wp2
                refine wp_region_quiet_below (by kernel_rfl) (by kernel_rfl) ?_
                repeat (first | go_big_quiet_step (fail) | quiet_step (fail))
                refine wpQuiet_nil ?_
                intro _ hw'
                obtain ⟨⟨dq, osq⟩, hw''⟩ := hw'
                subst hw''
                have HBv := Lib.hid (bchain HBz.out (below_regrown wr dq osq))
                go_wp2
                go_roundw
                case rel => exact ⟨k + 1, by omega, by go_num, Lib.hid (by rw [← HK.out, HSt.out, HE.out, Bool.true_and]), HBv⟩
                case measure => simp [intOf]; omega
              · have q3 : (r.tax == s.tax) = false := beq_eq_false_iff_ne.2 e3
                have HE : Hid (eqB r s = false) := Lib.hid (decide_eq_false fun h => e3 h.2.2.2)
                clear e0 e1 e2 e3
                go_wp2
                refine wp_region_quiet_below (by kernel_rfl) (by kernel_rfl) ?_
                repeat (first | go_big_quiet_step (fail) | quiet_step (fail))
                refine wpQuiet_nil ?_
                intro _ hw'
                obtain ⟨⟨dq, osq⟩, hw''⟩ := hw'
                subst hw''
                have HBv := Lib.hid (bchain HBz.out (below_regrown wr dq osq))
                go_wp2
                go_ret
                exact ⟨ret_bool (by rw [← HK.out, HSt.out, HE.out, Bool.false_and]), bchain HW.out HBv.out⟩
            · have q2 : (r.net == s.net) = false := beq_eq_false_iff_ne.2 e2
              have HE : Hid (eqB r s = false) := Lib.hid (decide_eq_false fun h => e2 h.2.2.1)
              clear e0 e1 e2
              go_wp2
              refine wp_region_quiet_below (by kernel_rfl) (by kernel_rfl) ?_
              repeat (first | go_big_quiet_step (fail) | quiet_step (fail))
              refine wpQuiet_nil ?_
              intro _ hw'
              obtain ⟨⟨dq, osq⟩, hw''⟩ := hw'
              subst hw''
              have HBv := Lib.hid (bchain HBz.out (below_regrown wr dq osq))
              go_wp2
              go_ret
              exact ⟨ret_bool (by rw [← HK.out, HSt.out, HE.out, Bool.false_and]), bchain HW.out HBv.out⟩
          · have q1 : (r.bp == s.bp) = false := beq_eq_false_iff_ne.2 e1
            have HE : Hid (eqB r s = false) := Lib.hid (decide_eq_false fun h => e1 h.2.1)
            clear e0 e1
            go_wp2
            refine wp_region_quiet_below (by kernel_rfl) (by kernel_rfl) ?_
            repeat (first | go_big_quiet_step (fail) | quiet_step (fail))
            refine wpQuiet_nil ?_
            intro _ hw'
            obtain ⟨⟨dq, osq⟩, hw''⟩ := hw'
            subst hw''
            have HBv := Lib.hid (bchain HBz.out (below_regrown wr dq osq))
            go_wp2
            go_ret
            exact ⟨ret_bool (by rw [← HK.out, HSt.out, HE.out, Bool.false_and]), bchain HW.out HBv.out⟩
        · have q0 : (r.cat.toList == s.cat.toList) = false := beq_eq_false_iff_ne.2 fun h => e0 (txt_ext (by rw [← tl, ← tl]; exact h))
          have HE : Hid (eqB r s = false) := Lib.hid (decide_eq_false fun h => e0 h.1)
          clear e0
          go_wp2
          refine wp_region_quiet_below (by kernel_rfl) (by kernel_rfl) ?_
          repeat (first | go_big_quiet_step (fail) | quiet_step (fail))
          refine wpQuiet_nil ?_
          intro _ hw'
          obtain ⟨⟨dq, osq⟩, hw''⟩ := hw'
          subst hw''
          have HBv := Lib.hid (bchain HBz.out (below_regrown wr dq osq))
          go_wp2
          go_ret
          exact ⟨ret_bool (by rw [← HK.out, HSt.out, HE.out, Bool.false_and]), bchain HW.out HBv.out⟩
      · obtain rfl : k = n := by omega
        go_wp2
        go_ret
        refine ⟨ret_bool ?_, HW.out.trans (HBz.out.mono HW.out.size)⟩
        rw [← HK.out, List.drop_eq_nil_of_le (Nat.le_of_eq HN.out.symm), List.drop_eq_nil_of_le (Nat.le_of_eq HM.out.symm)]
        rfl
  · have HE := Lib.hid (sameB_len (l := xs) (m := ys) (by rw [← HN.out, ← HM.out]; exact hnm))
    have hne : ((n : Int) != (m : Int)) = true := bne_iff_ne.2 (by omega)
    go_enter Try.func20, Try.ntmps20
    go_wp2
    go_ret
    exact ⟨ret_bool HE.out.symm, HW.out⟩
theorem same_rows (xs : List T) (ao bo : Option Addr) (n ca cb : Nat) (w0 w : World) (hw : Below w0.heap.size w0 w) (hA : Ls w ao n ca xs) (hB : Ls w bo n cb xs) :
    Calls Try.prog 20 #[.slice ao n ca, .slice bo n cb] w fun e w' => e = .returned (.bool true) ∧ Below w0.heap.size w0 w' := by
  have h := same_any xs xs ao bo n n ca cb w0 w hw hA hB
  rw [sameB_self] at h
  exact h
end Go.Proofs.Ythcaecinjmnlbab.Pt

/- api.Part: CONTRACTS OF THE BOOK OF MEMORY: Roomy, Intact. (By genrows.py.) -/
namespace Go.Proofs.Ythcaecinjmnlbab.Pt
open Go.RowKit
open Mem

open Go.Sort (grow)

theorem set_rest {L t : List T} {n k : Nat} {v : T} (hn : L.length = n) : (L ++ t).set (n + k) v = L ++ t.set k v := by
  subst hn
  rw [List.set_append_right _ _ (by omega), Nat.add_sub_cancel_left]
theorem take_set {t : List T} {k : Nat} {v : T} (hk : k < t.length) (h : t.take k = List.replicate k v) : (t.set k v).take (k + 1) = List.replicate (k + 1) v := by
  rw [List.take_succ_eq_append_getElem (by simpa using hk), List.take_set_of_le (Nat.le_refl k), h, List.replicate_succ']
  simp
theorem full_ls {w : World} {g n : Nat} {L : List T} {mark : T} (hB : Block w g (L ++ List.replicate 80 mark)) (hn : n = L.length) (hn9 : n ≤ 90000) (hs : ∀ r ∈ L, Short r) (hm : Short mark) : Ls w (some ⟨g, 0, none⟩) (n + 80) (n + 80) (L ++ List.replicate 80 mark) :=
  Block.ls (zs := []) (by rw [List.append_nil]; exact hB) _ _ (by rw [List.length_append, List.length_replicate, ← hn]) (Nat.le_refl _) (by omega) (fun r hr => by
    rcases List.mem_append.1 hr with hr | hr
    · exact hs r hr
    · rw [(List.mem_replicate.1 hr).2]; exact hm)
end Go.Proofs.Ythcaecinjmnlbab.Pt

/- slices.Insert OF ONE PART INTO PARTS OF THE CALL's OWN, WHERE THERE IS ROOM: in place. -/
set_option maxRecDepth 100000
set_option linter.unusedVariables false
namespace Go.Proofs.Ythcaecinjmnlbab.Pt
open Go.RowKit
open Mem

theorem slice_from (g n c k l c' : Nat) (x : Int) (hx : x = (k : Int)) (hk : k + l = n) (hc : k + c' = c) (hl : 0 < c') (hn : n ≤ c) (h63 : c ≤ 1000) (u : World) :
    (Instr.slice 32 (.slice (some ⟨g, 0, none⟩) n c) (some (.int .i64 x)) none none).run Try.prog u = .ok (.slice (some ⟨g, k * 4, none⟩) l c') u := by
  subst hx
  rw [run_slice_l u 32 (some ⟨g, 0, none⟩) n c und .i64 k (by omega) (by omega), size]
  have e1 : n - k = l := by omega
  have e2 : c - k = c' := by omega
  have e3 : ¬ c = k := by omega
  simp [Result.andThen, sliced, e1, e2, e3, Addr.add]
  intro h
  exact h.symm
theorem slice_to (g n c k : Nat) (x : Int) (hx : x = (k : Int)) (hk : k ≤ c) (h63 : c ≤ 1000) (u : World) :
    (Instr.slice 32 (.slice (some ⟨g, 0, none⟩) n c) none (some (.int .i64 x)) none).run Try.prog u = .ok (.slice (some ⟨g, 0, none⟩) k c) u := by
  subst hx
  rw [run_slice_h u 32 (some ⟨g, 0, none⟩) n c und .i64 k (by omega) (by omega), size]
  simp [Result.andThen, sliced, Addr.add]
/-- what a block of rows holds behind a copy -/
def laid (M rs : List T) (o : Nat) : List T := M.take o ++ rs ++ M.drop (o + rs.length)
def cells (M : List T) : Array Value := (M.flatMap rv).toArray
theorem flat_take : ∀ (M : List T) (o : Nat), (M.flatMap rv).take (o * 4) = (M.take o).flatMap rv
  | [], o => by simp
  | a :: l, 0 => by simp
  | a :: l, o + 1 => by
    rw [List.flatMap_cons, List.take_succ_cons, List.flatMap_cons, show (o + 1) * 4 = (rv a).length + o * 4 by rw [rv_len]; omega, List.take_length_add_append, flat_take l o]
theorem flat_drop : ∀ (M : List T) (o : Nat), (M.flatMap rv).drop (o * 4) = (M.drop o).flatMap rv
  | [], o => by simp
  | a :: l, 0 => by simp
  | a :: l, o + 1 => by
    rw [List.flatMap_cons, List.drop_succ_cons, show (o + 1) * 4 = (rv a).length + o * 4 by rw [rv_len]; omega, List.drop_length_add_append, flat_drop l o]
theorem block_laid {u : World} {g : Nat} {M : List T} (h : Block u g M) (N : List T) : Block (u.setRow g (cells N)) g N := setRow_heap u g _ _ 55 _ h
/-- copy(dst[o:], src): as many rows as both have -/
theorem copy_at (u : World) (g : Nat) (M : List T) (o dl dc b so sl sc : Nat) (rs : List T) (hb : Block u g M) (hk : rs.length = Nat.min sl dl) (ho : o + rs.length ≤ M.length) (hs : ∀ (k : Nat) (hk : k < rs.length), At u b (so + k * 4) rs[k]) (ty : TypeId) :
    (Builtin.copy_ #[32, 32] ty #[.slice (some ⟨g, o * 4, none⟩) dl dc, .slice (some ⟨b, so, none⟩) sl sc]).run Try.prog u = .ok (goInt rs.length) (u.setRow g (cells (laid M rs o))) := by
  obtain ⟨i0, hi, hiK⟩ := Option.map_eq_some_iff.1 sizeZ
  have hl := run_loadCells_list (P := Try.prog) u ⟨b, so, none⟩ (rs.flatMap rv) (fun j v hv => news_of hs j v hv)
  have hst := run_storeCells_at Try.prog g (o * 4) 55 (rs.flatMap rv) 0 _ u hb (by rw [List.size_toArray, flat_len, flat_len]; omega) (one_cell rs)
  have hlen : (rs.flatMap rv).length = rs.length * 4 := flat_len rs
  have e : ((M.flatMap rv).toArray.toList.take (o * 4 + 0) ++ rs.flatMap rv ++ (M.flatMap rv).toArray.toList.drop (o * 4 + 0 + (rs.flatMap rv).length)) = (laid M rs o).flatMap rv := by
    rw [List.toList_toArray, Nat.add_zero, hlen, flat_take, show o * 4 + rs.length * 4 = (o + rs.length) * 4 by omega, flat_drop]
    unfold laid
    rw [List.flatMap_append, List.flatMap_append]
  rw [e] at hst
  rw [hlen] at hl
  unfold cells
  simp [Builtin.copy_, run_underlying Try.underlying32, Builtin.lenOf, Builtin.firstCells, sizeOf, typeInfo, hi, hiK, ← hk, hl, hst]
theorem Block.drew {u : World} {g : Nat} {M : List T} (h : Block u g M) : Block u.drew g M := h
theorem Block.shape {u : World} {g : Nat} {M : List T} (h : Block u g M) : u.shape? g = some (55, M.length * 4) := by
  unfold World.shape?
  rw [h]
  simp only [List.size_toArray, flat_len]
/-- rows that lie in a block from its head on -/
theorem own_front {w : World} {B g n c : Nat} {M Z : List T} (h : Block w g (M ++ Z)) (hB : B ≤ g) (hn : n = M.length) (hc : c = (M ++ Z).length) (hm : c ≤ 1000) : Own w B (.slice (some ⟨g, 0, none⟩) n c) M := by
  subst hn hc
  refine ⟨by rw [flat_len], .inr ⟨g, _, _, rfl, hB, h, by rw [List.length_append]; omega, by have : maxLen = 9223372036854775807 := rfl; omega, by rw [List.size_toArray, flat_len], ?_⟩⟩
  rw [List.flatMap_append, List.toList_toArray, List.take_left' (by rw [flat_len])]
/-- one field of one row of a block written -/
theorem Block.put {w : World} {g : Nat} {M : List T} (h : Block w g M) (k p : Nat) (hk : k < M.length) (hp : p < 4) (x : Value) (r : T) (hr : rv r = (rv M[k]).set p x) : Block (w.setCell ⟨g, k * 4 + p, none⟩ x) g (M.set k r) := by
  have h1 := heap_setCell_same _ g (k * 4 + p) _ _ x h
  unfold Block
  rw [h1, flat_put r p x hp M k hk hr]
  simp only [List.setIfInBounds_toArray]
theorem Block.far {w : World} {g b : Nat} {M : List T} (h : Block w g M) (hne : g ≠ b) (o : Nat) (x : Value) : Block (w.setCell ⟨b, o, none⟩ x) g M := by
  unfold Block
  rw [heap_setCell_other w ⟨b, o, none⟩ g x hne]
  exact h
theorem set_at (M Z : List T) (z r : T) : (M ++ z :: Z).set M.length r = (M ++ [r]) ++ Z := by
  rw [List.set_append_right _ _ (Nat.le_refl _), Nat.sub_self, List.set_cons_zero, List.append_assoc]
  rfl
set_option maxHeartbeats 4000000 in
theorem insert_end (w : World) (g c vb n : Nat) (M Z : List T) (z r : T) (h : Block w g (M ++ z :: Z)) (hn : n = M.length) (hc : c = (M ++ z :: Z).length) (hm : c ≤ 1000) (hv : w.heap[vb]? = some (block r)) :
    Calls Try.prog 30 #[.slice (some ⟨g, 0, none⟩) n c, .int .i64 (n : Int), .slice (some ⟨vb, 0, none⟩) 1 1] w fun e w' =>
      e = .returned (.slice (some ⟨g, 0, none⟩) (n + 1) c) ∧ Block w' g ((M ++ [r]) ++ Z) ∧ (∀ B w0, Below B w0 w → B ≤ g → Below B w0 w') := by
  have hcl : c = n + 1 + Z.length := by rw [hc, List.length_append, List.length_cons, ← hn]; omega
  obtain ⟨i0, hi, hz0, hz1, hz2⟩ := info_parts info
  have hsrc : Src Try.prog i0.size 32 (.slice (some ⟨vb, 0, none⟩) 1 1) 1 (rv r) w := by
    rw [hz1]
    have hsg := seg_block hv
    rcases hsg with e | ⟨b, off, e, hat⟩
    · cases e
    · cases e
      have h' := news_of hat
      rw [List.flatMap_cons, List.flatMap_nil, List.append_nil] at h'
      exact Src.ofSlice w Try.underlying32 ⟨vb, 0, none⟩ 1 1 (rv r) rfl (fun j u hj => h' j u hj) (fun v hv => by have := one_cell [r] v (by rw [List.flatMap_cons, List.flatMap_nil, List.append_nil]; exact hv); exact this)
  have hsl := slice_from g n c n 0 (c - n) (n : Int) rfl (by omega) (by omega) (by omega) (by omega) hm
  have hcell : ∀ j, j < (rv r).length → (w.cell? ⟨g, 0 + n * i0.size + j, none⟩).isSome = true := fun j hj => by
    rw [rv_len] at hj
    rw [hz1, Nat.zero_add, cell_of_row w g _ _ _ _ h, List.getElem?_toArray, flat_at (M ++ z :: Z) n j (by rw [List.length_append, List.length_cons]; omega) hj]
    rw [List.getElem?_eq_getElem (by rw [rv_len]; exact hj)]
    rfl
  have hfz : ∀ j, j < (rv r).length → w.frozen? ⟨g, 0 + n * i0.size + j, none⟩ = false := fun j _ => h.frozen _
  have HP : Hid (Block (w.setCells g (n * 4) (rv r)) g ((M ++ [r]) ++ Z)) := by
    have hst := h.store n (by rw [List.length_append, List.length_cons]; omega) r
    rw [hn, set_at, ← hn] at hst
    exact hst
  have HB : Hid (∀ B w0, Below B w0 w → B ≤ g → Below B w0 (w.setCells g (n * 4) (rv r))) := by
    intro B w0 hb hg
    exact below_store hb hg n _ _ _ _
  have hcn : n + 1 ≤ c := by omega
  have HH := Lib.hid h
  have HV := Lib.hid hv
  have hn1 : (n : Int) ≤ 1000 := by omega
  clear h hv hc hcl hn
  go_enter Try.func30, Try.ntmps30
  go_wp2_with (at_builtin; go_must (refine wpList_append_room_src w rfl (.tmp 23) (.tmp 24) 32 32 rfl 55 i0 Try.underlying32 hi g 0 n c rfl _ rfl 1 (rv r) hsrc hcn hcell hfz ?_))
  go_ret
  exact ⟨rfl, HP.out, HB.out⟩
theorem laid_up (M Z : List T) (z : T) (i : Nat) (hi : i < M.length) : laid (M ++ z :: Z) (M.drop i) (i + 1) = M.take (i + 1) ++ M.drop i ++ Z := by
  have e1 : (M ++ z :: Z).take (i + 1) = M.take (i + 1) := List.take_append_of_le_length (by omega)
  have e2 : (M ++ z :: Z).drop (i + 1 + (M.drop i).length) = Z := by
    rw [List.length_drop, show i + 1 + (M.length - i) = (M ++ [z]).length by rw [List.length_append, List.length_singleton]; omega, show M ++ z :: Z = (M ++ [z]) ++ Z by simp, List.drop_left]
  unfold laid
  rw [e1, e2]
theorem laid_in (M Z : List T) (r : T) (i : Nat) (hi : i < M.length) : laid (M.take (i + 1) ++ M.drop i ++ Z) [r] i = (M.take i ++ r :: M.drop i) ++ Z := by
  have e1 : (M.take (i + 1) ++ M.drop i ++ Z).take i = M.take i := by
    rw [List.append_assoc, List.take_append_of_le_length (by rw [List.length_take]; omega), List.take_take, Nat.min_eq_left (by omega)]
  have e2 : (M.take (i + 1) ++ M.drop i ++ Z).drop (i + [r].length) = M.drop i ++ Z := by
    rw [List.append_assoc, List.drop_left' (by rw [List.length_take, List.length_singleton]; omega)]
  unfold laid
  rw [e1, e2]
  simp only [List.append_assoc, List.cons_append, List.nil_append]
theorem size4 (u : World) : (sizeOf 55).run Try.prog u = .ok 4 u := by
  obtain ⟨i, hi, hs⟩ := Option.map_eq_some_iff.1 sizeZ
  simp [sizeOf, typeInfo, hi, hs]
set_option maxHeartbeats 4000000 in
theorem insert_mid (w : World) (g c vb n i : Nat) (M Z : List T) (z r : T) (h : Block w g (M ++ z :: Z)) (hn : n = M.length) (hc : c = (M ++ z :: Z).length) (hm : c ≤ 1000) (hv : w.heap[vb]? = some (block r)) (hne : vb ≠ g) (hi : i < n) :
    Calls Try.prog 30 #[.slice (some ⟨g, 0, none⟩) n c, .int .i64 (i : Int), .slice (some ⟨vb, 0, none⟩) 1 1] w fun e w' =>
      e = .returned (.slice (some ⟨g, 0, none⟩) (n + 1) c) ∧ Block w' g ((M.take i ++ r :: M.drop i) ++ Z) ∧ (∀ B w0, Below B w0 w → B ≤ g → Below B w0 w') := by
  have hcl : c = n + 1 + Z.length := by rw [hc, List.length_append, List.length_cons, ← hn]; omega
  have hs1 := slice_from g n c i (n - i) (c - i) (i : Int) rfl (by omega) (by omega) (by omega) (by omega) hm
  have hs2 := slice_to g n c (n + 1) ((n : Int) + 1) (by omega) (by omega) hm
  have hs3 := slice_from g (n + 1) c (i + 1) (n - i) (c - (i + 1)) ((i : Int) + 1) (by omega) (by omega) (by omega) (by omega) (by omega) hm
  have hs4 := slice_from g (n + 1) c i (n + 1 - i) (c - i) (i : Int) rfl (by omega) (by omega) (by omega) (by omega) hm
  have hov : ∀ lb cb, (callFunc 42 #[.slice (some ⟨vb, 0, none⟩) 1 1, .slice (some ⟨g, (i + 1) * 4, none⟩) lb cb]).run Try.prog w = .ok (.value (.bool false)) w := fun lb cb => by
    rw [run_callFunc_extern Try.func42 (by kernel_rfl) (by kernel_rfl) (by kernel_rfl) (e := Extern.SlicesOverlaps.overlaps #[32, 32] #[4]) (by kernel_rfl),
      Lib.run_overlaps_apart w 32 4 55 Try.underlying32 4 size4 ⟨vb, 0, none⟩ ⟨g, (i + 1) * 4, none⟩ 1 1 lb cb hne 55 55 4 ((M ++ z :: Z).length * 4) (by unfold World.shape?; rw [hv]; rfl) h.shape (by rw [← hc]; omega) (frozen_of_row w vb 0 _ _ hv) (frozen_of_row w vb 4 _ _ hv)]
    rfl
  obtain ⟨W1, hW1⟩ : ∃ W1, w.drew.setRow g (cells (M.take (i + 1) ++ M.drop i ++ Z)) = W1 := ⟨_, rfl⟩
  have hB1 : Block W1 g (M.take (i + 1) ++ M.drop i ++ Z) := hW1 ▸ block_laid h.drew _
  have hd : (M.drop i).length = n - i := by rw [List.length_drop, hn]
  have hcp1 : ∀ ty dc sc, (Builtin.copy_ #[32, 32] ty #[.slice (some ⟨g, (i + 1) * 4, none⟩) (n - i) dc, .slice (some ⟨g, i * 4, none⟩) (n + 1 - i) sc]).run Try.prog w.drew = .ok (goInt (n - i : Nat)) W1 := fun ty dc sc => by
    have hcp := copy_at w.drew g (M ++ z :: Z) (i + 1) (n - i) dc g (i * 4) (n + 1 - i) sc (M.drop i) h.drew (by rw [hd]; simp only [Nat.min_def]; split <;> omega) (by rw [hd, List.length_append, List.length_cons]; omega) (fun k hk => by
      have hr := h.drew.row (i + k) (by rw [List.length_append]; omega)
      rw [List.getElem_append_left (by omega)] at hr
      rw [List.getElem_drop, show i * 4 + k * 4 = (i + k) * 4 by omega]
      exact hr) ty
    rw [laid_up M Z z i (by omega), hW1, hd] at hcp
    exact hcp
  have hvW : W1.heap[vb]? = some (block r) := by
    rw [← hW1, setRow_other w.drew g vb _ hne]
    exact hv
  obtain ⟨W2, hW2⟩ : ∃ W2, W1.setRow g (cells ((M.take i ++ r :: M.drop i) ++ Z)) = W2 := ⟨_, rfl⟩
  have hcp2 : ∀ ty dc, (Builtin.copy_ #[32, 32] ty #[.slice (some ⟨g, i * 4, none⟩) (n + 1 - i) dc, .slice (some ⟨vb, 0, none⟩) 1 1]).run Try.prog W1 = .ok (goInt 1) W2 := fun ty dc => by
    have hsg := seg_block hvW
    have hcp := copy_at W1 g (M.take (i + 1) ++ M.drop i ++ Z) i (n + 1 - i) dc vb 0 1 1 [r] hB1 (by simp only [Nat.min_def, List.length_singleton]; split <;> omega) (by simp only [List.length_append, List.length_take, hd, List.length_singleton]; omega) (by
      rcases hsg with e | ⟨b, off, e, hat⟩
      · cases e
      · cases e
        exact hat) ty
    rw [laid_in M Z r i (by omega), hW2] at hcp
    exact hcp
  have HP : Hid (Block W2 g ((M.take i ++ r :: M.drop i) ++ Z)) := by
    show Block W2 g _
    rw [← hW2]
    exact block_laid hB1 _
  have HB : Hid (∀ B w0, Below B w0 w → B ≤ g → Below B w0 W2) := by
    intro B w0 hb hg
    rw [← hW2, ← hW1]
    exact below_setRow (below_setRow hb.drew hg _) hg _
  have hin : ¬ ((i : Int) = (n : Int)) := by omega
  have hin' : ((i : Int) == (n : Int)) = false := by simpa using hin
  have hcn : (n : Int) + 1 ≤ (c : Int) := by omega
  have hc1 : (c : Int) ≤ 1000 := by omega
  have hi1 : (i : Int) + 1 ≤ (n : Int) := by omega
  clear h hv hc hcl hn hW1 hW2 hB1 hd hvW hne
  go_enter Try.func30, Try.ntmps30
  go_wp2_with (simp only [hov])
  go_region
  go_wp2_with fail
  go_ret
  exact ⟨rfl, HP.out, HB.out⟩
end Go.Proofs.Ythcaecinjmnlbab.Pt
