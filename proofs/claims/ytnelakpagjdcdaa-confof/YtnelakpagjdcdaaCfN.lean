/- SLICES OF NUMBERS OF THE CALL'S OWN: appended to, compared. -/
import Derived.Test.YtnelakpagjdcdaaMemL
import Derived.Laws.AppendOwnNone
import Derived.Lib.QuietBelow
set_option maxRecDepth 100000
set_option linter.unusedVariables false
namespace Go.Proofs.Ytnelakpagjdcdaa.Ci
open Go.RowKit
open Mem
open Go.Sort (grow)

theorem info : (Try.prog.info? 3).map (fun i => (i.zero, i.size, i.bytes)) = some (some (.int .i64 0), 1, 8) := by kernel_rfl
def Own (w : World) (B : Nat) (v : Value) (xs : List Int) : Prop := w.ownsRow B 3 1 v xs.length (xs.map (Value.int .i64))
theorem own_nil (w : World) (B : Nat) : Own w B (.slice none 0 0) [] := ⟨rfl, .inl ⟨rfl, rfl⟩⟩
theorem cell_one (u : World) (v : Value) (t : TypeId) (j : Nat) (z : Value) (h : [v][j]? = some z) : (u.alloc (.cells #[v] t)).cell? ((⟨u.heap.size, 0, none⟩ : Addr).add j) = some z := by
  rcases j with _ | j
  · simp only [List.getElem?_cons_zero, Option.some.injEq] at h
    subst h
    simp [Addr.add, go_sem]
  · simp at h
theorem app {ops : Array Oper} {rest : List Oper} {o : Oper} {a : Act} {Q : Exit → Act → World → Prop} (u : World) (x : Int) (hgd : o.guard = none) (s t : Operand)
    (ho : o.op = .call { callee := .builtin .append, args := #[s, t], argTypes := #[24, 24] }) (B : Nat) (v : Value) (xs : List Int) (hs : a.eval s = v) (hown : Own u B v xs)
    (hx : a.eval t = .slice (some ⟨u.heap.size, 0, none⟩) 1 1) (hm : xs.length ≤ 100000) (hB : B ≤ u.heap.size)
    (h : ∀ v' w1, Own w1 B v' (xs ++ [x]) → (u.alloc (.cells #[.int .i64 x] 3)).grownBy w1 v.ownBlock → wpList Try.prog ops Q rest (a.put o.dst v') w1) :
    wpList Try.prog ops Q (o :: rest) a (u.alloc (.cells #[.int .i64 x] 3)) := by
  obtain ⟨i0, hi, hz0, hz1, hz2⟩ := info_parts info
  have hmx : maxLen = 9223372036854775807 := rfl
  refine wpList_append_own_at (w := u.alloc (.cells #[.int .i64 x] 3)) hgd s t 24 ho B 3 i0 (.int .i64 0) 1 8 Try.underlying24 hi hz0 hz1 hz2 rfl (by omega) v xs.length (xs.map (Value.int .i64)) hs (World.ownsRow.alloc hown _) ⟨u.heap.size, 0, none⟩ 1 1 [.int .i64 x] hx rfl (cell_one u _ _) (fun z hz => by rw [List.mem_singleton.1 hz]; rfl) (by omega) (by omega) (by simp; omega) ?_
  intro v' w' h1 h2 _ h3
  refine h v' w' ?_ h2
  unfold Own
  rw [List.length_append, List.map_append]
  exact h1
variable {w u : World} {B : Nat} {v : Value} {xs : List Int}
theorem Own.below (h : Own w B v xs) (k : Below w.heap.size w u) : Own u B v xs := by
  obtain ⟨h1, h2⟩ := h
  refine ⟨h1, ?_⟩
  rcases h2 with h2 | ⟨g, cap, cur, h', hb, hg, h3⟩
  · exact .inl h2
  · have hl : g < w.heap.size := (Array.getElem?_eq_some_iff.1 hg).1
    exact .inr ⟨g, cap, cur, h', hb, (k.block g hl).trans hg, h3⟩
theorem own_ge (h : Own w B v xs) : ∀ k, v.ownBlock = some k → B ≤ k := by
  intro k hk
  rcases h.2 with ⟨h', _⟩ | ⟨g, cap, cur, h', hb, _⟩
  · rw [h'] at hk
    cases hk
  · rw [h'] at hk
    simp only [Value.ownBlock, Option.some.injEq] at hk
    omega
/-- a slice of numbers, as a contract takes it -/
structure Zs (w : World) (ao : Option Addr) (n cap : Nat) (zs : List Int) : Prop where
  len : n = zs.length
  fits : n ≤ cap
  reach : cap ≤ 9223372036854775807
  seg : zs = [] ∨ ∃ b off, ao = some ⟨b, off, none⟩ ∧ ∀ k (hk : k < zs.length), w.cell? ⟨b, off + k, none⟩ = some (.int .i64 zs[k])
theorem Zs.below {ao : Option Addr} {n cap : Nat} (h : Zs w ao n cap xs) (k : Below w.heap.size w u) : Zs u ao n cap xs := by
  refine ⟨h.len, h.fits, h.reach, ?_⟩
  rcases h.seg with e | ⟨b, off, e, hc⟩
  · exact .inl e
  · exact .inr ⟨b, off, e, fun i hi => by rw [(bcell k).1 _ _ (cell_lt (hc i hi))]; exact hc i hi⟩
theorem Zs.at {ao : Option Addr} {n cap : Nat} (h : Zs w ao n cap xs) (hn : 0 < n) : ∃ b off, ao = some ⟨b, off, none⟩ := by
  rcases h.seg with e | ⟨b, off, e, _⟩
  · have := h.len
    rw [e, List.length_nil] at this
    omega
  · exact ⟨b, off, e⟩
theorem Zs.row {b off n cap : Nat} (h : Zs w (some ⟨b, off, none⟩) n cap xs) (k : Nat) (hk : k < xs.length) : w.cell? ⟨b, off + k, none⟩ = some (.int .i64 xs[k]) := by
  rcases h.seg with e | ⟨b', off', e, hc⟩
  · subst e
    exact absurd hk (Nat.not_lt_zero _)
  · cases e
    exact hc k hk
theorem own_zs (h : Own w B v xs) : ∃ ao cap, v = .slice ao xs.length cap ∧ Zs w ao xs.length cap xs := by
  rcases h.2 with ⟨h', h2⟩ | ⟨g, cap, cur, h', hb, hg, hnc, hcm, hcs, htake⟩
  · have e : xs = [] := List.length_eq_zero_iff.1 h2
    subst e
    exact ⟨none, 0, h', ⟨rfl, Nat.le_refl _, by omega, .inl rfl⟩⟩
  · refine ⟨_, cap, h', ⟨rfl, hnc, hcm, ?_⟩⟩
    refine .inr ⟨g, 0, rfl, fun k hk => ?_⟩
    rw [Nat.zero_add, cell_of_row w g k _ _ _ hg]
    have h5 : (cur.toList.take (xs.length * 1))[k]? = (xs.map (Value.int .i64))[k]? := by rw [htake]
    rw [List.getElem?_take_of_lt (by omega), List.getElem?_map, List.getElem?_eq_getElem hk] at h5
    simpa using h5
set_option maxHeartbeats 1000000 in
/-- slices of the same numbers are the same -/
theorem same (xs : List Int) (ao bo : Option Addr) (n ca cb : Nat) (w0 w : World) (hw : Below w0.heap.size w0 w) (hA : Zs w ao n ca xs) (hB : Zs w bo n cb xs) :
    Calls Try.prog 9 #[.slice ao n ca, .slice bo n cb] w fun e w' => e = .returned (.bool true) ∧ Below w0.heap.size w0 w' := by
  have HW := Lib.hid hw
  have HA := Lib.hid hA
  have HB := Lib.hid hB
  have HN := Lib.hid hA.len
  have hca := hA.reach
  have hfa := hA.fits
  have hcb := hB.reach
  have hfb := hB.fits
  clear hw hA hB
  have hne : ((n : Int) != (n : Int)) = false := bne_self_eq_false _
  go_enter Try.func9, Try.ntmps9
  go_wp2
  go_loopw [5] (fun i wr => ∃ k : Nat, k ≤ n ∧ i = .int .i64 k ∧ Hid (Below w.heap.size w wr)) (fun i _ => n - (intOf i).toNat)
  case atStart => exact ⟨0, Nat.zero_le _, rfl, Lib.hid (Below.refl _ _)⟩
  case round =>
    obtain ⟨k, hk, rfl, HBz⟩ := hrel
    by_cases hlt : k < n
    · obtain ⟨a, oa, rfl⟩ := HA.out.at (by omega)
      obtain ⟨b, ob, rfl⟩ := HB.out.at (by omega)
      have hkr : k < xs.length := HN.out ▸ hlt
      obtain ⟨r, hr⟩ : ∃ r, xs[k] = r := ⟨_, rfl⟩
      have g0 := (HA.out.below HBz.out).row k hkr
      have f0 := (HB.out.below HBz.out).row k hkr
      rw [hr] at g0 f0
      clear hr
      have g0' := cell_regrown g0
      have f0' := cell_regrown f0
      have q0 : (r == r) = true := beq_self_eq_true _
      go_wp2
      refine wp_region_quiet_below (by kernel_rfl) (by kernel_rfl) ?_
      repeat (first | go_big_quiet_step (fail) | quiet_step (fail))
      refine wpQuiet_nil ?_
      intro _ hw'
      obtain ⟨⟨dq, osq⟩, hw''⟩ := hw'
      subst hw''
      have HBv := Lib.hid (bchain HBz.out (below_regrown wr dq osq))
      go_wp2
      go_roundw
      case rel => exact ⟨k + 1, by omega, by go_num, HBv⟩
      case measure => simp [intOf]; omega
    · go_wp2
      go_ret
      exact ⟨rfl, bchain HW.out HBz.out⟩
end Go.Proofs.Ytnelakpagjdcdaa.Ci
