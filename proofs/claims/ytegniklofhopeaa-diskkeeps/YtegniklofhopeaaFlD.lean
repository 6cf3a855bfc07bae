/- slices.Delete OF ONE FILE OUT OF THE FILES' ROWS. -/
import Derived.Test.YtegniklofhopeaaFlG
import Derived.Deep.RegionLaw
set_option maxRecDepth 100000
set_option linter.unusedVariables false
namespace Go.Proofs.Ytegniklofhopeaa
open Go.RowKit
open Mem Dk

/-- append at a step of a region that draws its order: what it runs to is known -/
theorem step_append_run {P : Program} {ops : Array Oper} {o : Oper} {a : Act} {w : World} {K : Act → World → Prop} {Q : Exit → Act → World → Prop} {E : Prop}
    (hg : o.guard = none) (s x : Operand) (t t' : TypeId) (hop : o.op = Op.call { callee := Callee.builtin Builtin.append, args := #[s, x], argTypes := #[t, t'] })
    (vs vx : Value) (hs : a.eval s = vs) (hx : a.eval x = vx) (v : Value) (W : World) (hrun : (Builtin.append_ #[t, t'] o.type #[vs, vx]).run P w = .ok v W)
    (hK : K (a.put o.dst v) W) : if Region.wanted o (yielded ops a.tmps) = true then Oper.wp P o a w K Q else E := by
  have hw : Region.wanted o (yielded ops a.tmps) = true := by simp [Region.wanted, hg]
  rw [if_pos hw]
  unfold Oper.wp
  simp [execOp, hop, resolve, invoke, builtin, hs, hx, hrun, Result.andThen]
  exact hK
namespace Fl
theorem rlaid_len {cs : List Value} {rs : List T} {o : Nat} (h : (o + rs.length) * 3 ≤ cs.length) : (rlaid cs rs o).length = cs.length := by
  unfold rlaid
  rw [List.length_append, List.length_append, List.length_take, List.length_drop, flat_len, Nat.min_eq_left (by omega)]
  omega
theorem rlaid_take {cs : List Value} {rs : List T} {o : Nat} (h : o * 3 ≤ cs.length) : (rlaid cs rs o).take (o * 3) = cs.take (o * 3) := by
  unfold rlaid
  rw [List.append_assoc, List.take_left' (by rw [List.length_take]; omega)]
theorem slice_any (g n c k l c' : Nat) (x : Int) (hx : x = (k : Int)) (hk : k + l = n) (hc : k + c' = c) (hn : n ≤ c) (h63 : c ≤ 9223372036854775807) :
    ∃ A : Addr, (∀ u, (Instr.slice 47 (.slice (some ⟨g, 0, none⟩) n c) (some (.int .i64 x)) none none).run Try.prog u = .ok (.slice (some A) l c') u) ∧ (0 < c' → A = ⟨g, k * 3, none⟩) := by
  by_cases h : 0 < c'
  · exact ⟨_, fun u => slice_from g n c k l c' x hx hk hc h hn h63 u, fun _ => rfl⟩
  · refine ⟨⟨g, 0, none⟩, fun u => ?_, fun z => absurd z h⟩
    subst hx
    rw [run_slice_l u 47 (some ⟨g, 0, none⟩) n c und .i64 k (by omega) (by omega), size]
    have e1 : n - k = l := by omega
    have e2 : c - k = c' := by omega
    have e3 : c = k := by omega
    have e4 : k - k = c' := by omega
    simp [Result.andThen, sliced, e1, e3, ← e4]
theorem append_raw (u : World) (g i cap : Nat) (cs : List Value) (A : Addr) (m c : Nat) (rs : List T) (hb : Raw u g cs) (hm : rs.length = m) (hroom : i + m ≤ cap) (hl : cs.length = cap * 3) (hA : ∀ j x, (rs.flatMap rv)[j]? = some x → u.cell? (A.add j) = some x) (ty : TypeId) :
    (Builtin.append_ #[47, 47] ty #[.slice (some ⟨g, 0, none⟩) i cap, .slice (some A) m c]).run Try.prog u = .ok (.slice (some ⟨g, 0, none⟩) (i + m) cap) (u.setRow g (rcells (rlaid cs rs i))) := by
  obtain ⟨i0, hi0, hz0, hz1, hz2⟩ := info_parts info
  have hfl : (rs.flatMap rv).length = m * i0.size := by rw [flat_len, hm, hz1]
  have hfc := run_firstCells_some (P := Try.prog) u i0.size m A m c (rs.flatMap rv) hfl hA
  have hst := run_storeCells_at Try.prog g (0 + i * i0.size) 67 (rs.flatMap rv) 0 _ u hb (by rw [List.size_toArray, flat_len, hz1, hm]; omega) (one_cell rs)
  have e : (cs.toArray.toList.take (0 + i * i0.size + 0) ++ rs.flatMap rv ++ cs.toArray.toList.drop (0 + i * i0.size + 0 + (rs.flatMap rv).length)) = rlaid cs rs i := by
    rw [List.toList_toArray, flat_len, hz1, Nat.add_zero, Nat.zero_add, show i * 3 + rs.length * 3 = (i + rs.length) * 3 by omega]
    rfl
  rw [e, Nat.zero_add] at hst
  unfold rcells
  simp [Builtin.append_, run_underlying Try.underlying47, sizeOf, typeInfo, hi0, Builtin.lenOf, hroom, hfc, Addr.add_lit, hst]
theorem clear_raw (u : World) (g k c : Nat) (cs : List Value) (hb : Raw u g cs) (hl : (k + 1) * 3 ≤ cs.length) (ty : TypeId) :
    (Builtin.clear_ #[47] ty #[.slice (some ⟨g, k * 3, none⟩) 1 c]).run Try.prog u = .ok (.tuple #[]) (u.setRow g (rcells (rlaid cs [zero] k))) := by
  have hst := run_storeCells_at Try.prog g (k * 3) 67 ((List.replicate 1 zero).flatMap rv) 0 _ u hb (by rw [List.size_toArray, flat_len, List.length_replicate]; omega) (one_cell _)
  have e : (cs.toArray.toList.take (k * 3 + 0) ++ (List.replicate 1 zero).flatMap rv ++ cs.toArray.toList.drop (k * 3 + 0 + ((List.replicate 1 zero).flatMap rv).length)) = rlaid cs [zero] k := by
    rw [List.toList_toArray, flat_len, Nat.add_zero, List.length_replicate, show k * 3 + 1 * 3 = (k + 1) * 3 by omega]
    rfl
  rw [e] at hst
  have hz : ∀ u, (zeroValue 67).run Try.prog u = .ok zeroV u := Try.zeroValue67
  unfold rcells
  simp only [Builtin.clear_, Sem.run_bind, Sem.run_pure, run_underlying Try.underlying47, Result.andThen_ok, List.getElem?_toArray, List.getElem?_cons_zero, hz, zero_cells, hst]
/-- what Delete answers -/
def DelE (w : World) (v : Value) (M : List T) (i : Nat) (e : Ending) (w' : World) : Prop := ∃ v', e = .returned v' ∧ Own w' 0 v' (M.take i ++ M.drop (i + 1)) ∧ v'.ownBlock = v.ownBlock ∧ UpdQ (fun b => v.ownBlock = some b) w w'
set_option maxHeartbeats 4000000 in
theorem delete_one (w : World) (ao : Option Addr) (n cap i : Nat) (M : List T) (h : Own w 0 (.slice ao n cap) M) (hi : i < n) (hm : n ≤ 1000) :
    Calls Try.prog 52 #[.slice ao n cap, .int .i64 (i : Int), .int .i64 ((i : Int) + 1)] w (DelE w (.slice ao n cap) M i) := by
  obtain ⟨g, rfl⟩ : ∃ g, ao = some ⟨g, 0, none⟩ := by
    rcases h.2 with ⟨h1, h2⟩ | ⟨g, cap', cur, h1, _⟩
    · simp only [Value.slice.injEq] at h1
      omega
    · simp only [Value.slice.injEq] at h1
      exact ⟨g, h1.1⟩
  obtain ⟨cs, hR, hl, ht, hn, hnc, hcm, _⟩ := own_raw h
  have hs0 : ∀ u, (Instr.slice 47 (.slice (some ⟨g, 0, none⟩) n cap) (some (.int .i64 (i : Int))) (some (.int .i64 ((i : Int) + 1))) (some (.int .i64 (n : Int)))).run Try.prog u = .ok (.slice (some ⟨g, i * 3, none⟩) 1 (n - i)) u := fun u => by
    rw [run_slice_lhm u 47 (some ⟨g, 0, none⟩) n cap und .i64 .i64 .i64 i ((i : Int) + 1) n (by omega) (by omega) (by omega) (by omega), size]
    have e1 : ((i : Int) + 1).toNat = i + 1 := by omega
    have e3 : ¬ n = i := by omega
    simp [Result.andThen, sliced, e1, e3, Addr.add]
    intro z
    exact z.symm
  have hs1 := slice_to g n cap i (i : Int) rfl (by omega) hcm
  obtain ⟨A, hs2, hA⟩ := slice_any g n cap (i + 1) (n - (i + 1)) (cap - (i + 1)) ((i : Int) + 1) (by omega) (by omega) (by omega) (by omega) hcm
  have hd : (M.drop (i + 1)).length = n - (i + 1) := by rw [List.length_drop, hn]
  obtain ⟨W1, hW1⟩ : ∃ W1, w.drew.setRow g (rcells (rlaid cs (M.drop (i + 1)) i)) = W1 := ⟨_, rfl⟩
  have hnn : i + (n - (i + 1)) = n - 1 := by omega
  have hap : ∀ ty, (Builtin.append_ #[47, 47] ty #[.slice (some ⟨g, 0, none⟩) i cap, .slice (some A) (n - (i + 1)) (cap - (i + 1))]).run Try.prog w.drew = .ok (.slice (some ⟨g, 0, none⟩) (n - 1) cap) W1 := fun ty => by
    have := append_raw w.drew g i cap cs A (n - (i + 1)) (cap - (i + 1)) (M.drop (i + 1)) hR.drew hd (by omega) hl (fun j x hx => by
      have hj : j < (M.drop (i + 1)).length * 3 := by
        have := (List.getElem?_eq_some_iff.1 hx).1
        rwa [flat_len] at this
      rw [hA (by omega)]
      refine news_of (off := (i + 1) * 3) (fun k hk => ?_) j x hx
      have hr := (own_at (own_drew h) (i + 1 + k) (by omega)).1
      rw [List.getElem_drop, show (i + 1) * 3 + k * 3 = (i + 1 + k) * 3 by omega]
      exact hr) ty
    rw [hnn, hW1] at this
    exact this
  have hlen1 : (rlaid cs (M.drop (i + 1)) i).length = cap * 3 := by rw [rlaid_len (by rw [hd]; omega), hl]
  have hR1 : Raw W1 g (rlaid cs (M.drop (i + 1)) i) := hW1 ▸ hR.drew.laid _
  have hs3 : ∀ u, (Instr.slice 47 (.slice (some ⟨g, 0, none⟩) (n - 1) cap) (some (.int .i64 ((n - 1 : Nat) : Int))) (some (.int .i64 (n : Int))) none).run Try.prog u = .ok (.slice (some ⟨g, (n - 1) * 3, none⟩) 1 (cap - (n - 1))) u := fun u => by
    rw [run_slice_lh u 47 (some ⟨g, 0, none⟩) (n - 1) cap und .i64 .i64 ((n - 1 : Nat) : Int) n (by omega) (by omega) (by omega), size]
    have e1 : ((n - 1 : Nat) : Int).toNat = n - 1 := by omega
    have e2 : n - (n - 1) = 1 := by omega
    have e3 : ¬ cap = n - 1 := by omega
    simp [Result.andThen, sliced, e1, e2, e3, Addr.add]
    intro z
    exact z.symm
  obtain ⟨W2, hW2⟩ : ∃ W2, W1.setRow g (rcells (rlaid (rlaid cs (M.drop (i + 1)) i) [zero] (n - 1))) = W2 := ⟨_, rfl⟩
  have hcl : ∀ ty c, (Builtin.clear_ #[47] ty #[.slice (some ⟨g, (n - 1) * 3, none⟩) 1 c]).run Try.prog W1 = .ok (.tuple #[]) W2 := fun ty c => hW2 ▸ clear_raw W1 g (n - 1) c _ hR1 (by rw [hlen1]; omega) ty
  have HI : Hid (DelE w (.slice (some ⟨g, 0, none⟩) n cap) M i (.returned (.slice (some ⟨g, 0, none⟩) (n - 1) cap)) W2) := Lib.hid (by
    refine ⟨_, rfl, raw_own (cs := rlaid (rlaid cs (M.drop (i + 1)) i) [zero] (n - 1)) ?_ ?_ ?_ ?_ (by omega) hcm (Nat.zero_le _), rfl, ?_⟩
    · rw [← hW2]
      exact hR1.laid _
    · rw [rlaid_len (by rw [hlen1, List.length_singleton]; omega), hlen1]
    · rw [rlaid_take (by rw [hlen1]; omega)]
      unfold rlaid
      rw [flat_app, ← flat_take, ← ht, List.take_take, Nat.min_eq_left (by omega), List.take_left' (by rw [List.length_append, List.length_take, flat_len, hd, Nat.min_eq_left (by omega)]; omega)]
    · rw [List.length_append, List.length_take, hd, Nat.min_eq_left (by omega)]
      omega
    · rw [← hW2, ← hW1]
      exact ((UpdQ.of (Below.refl _ _).drew).trans (UpdQ.row (Q := fun b => (Value.slice (some ⟨g, 0, none⟩) n cap).ownBlock = some b) w.drew rfl _)).trans (UpdQ.row (Q := fun b => (Value.slice (some ⟨g, 0, none⟩) n cap).ownBlock = some b) _ rfl _))
  have hin' : ((i : Int) == (i : Int) + 1) = false := beq_eq_false_iff_ne.2 (by omega)
  clear h hR hl ht hn hW1 hW2 hR1 hd hlen1 hnn hA
  go_enter Try.func52, Try.ntmps52
  go_wp2_with fail
  go_region_law (refine step_append_run rfl (.tmp 22) (.tmp 25) 47 47 rfl _ _ (by simp [Act.eval, Act.put]) (by simp [Act.eval, Act.put]) _ _ (hap _) ?_)
  go_wp2_with fail
  go_ret
  exact HI.out
end Fl
end Go.Proofs.Ytegniklofhopeaa
