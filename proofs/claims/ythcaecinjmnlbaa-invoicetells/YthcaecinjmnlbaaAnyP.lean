/- STEPS OF A REGION THAT DRAWS ITS ORDER: a slice of parts built, stored. -/
import Derived.Test.YthcaecinjmnlbaaAnyX
import Derived.Test.YthcaecinjmnlbaaHc
namespace Go.Proofs.Ythcaecinjmnlbaa
open Go.RowKit

section
variable {ops : Array Oper} {o : Oper} {a : Act} {K : Act → World → Prop} {Q : Exit → Act → World → Prop} {E : Prop} {w : World}
theorem step_empty (hgd : o.guard = none) (ho : o.op = .buildSlice 28 0 #[]) (h : K (a.put o.dst (.slice (some ⟨w.heap.size, 0, none⟩) 0 0)) (w.alloc (.cells #[] 39))) :
    if Region.wanted o (yielded ops a.tmps) = true then o.wp Try.prog a w K Q else E := by
  rw [if_pos (by simp [Region.wanted, hgd])]
  unfold Oper.wp
  simp [execOp, ho, go_sem, Oper.upon]
  exact h
theorem step_one {y : Operand} {c : ByteArray} {bp : Int} (hgd : o.guard = none) (ho : o.op = .buildSlice 28 1 #[(0, y)]) (hy : a.eval y = .agg #[.string c, .int .i64 bp, .int .i64 0, .int .i64 0]) (h : K (a.put o.dst (.slice (some ⟨w.heap.size, 0, none⟩) 1 1)) (w.alloc (.cells #[.string c, .int .i64 bp, .int .i64 0, .int .i64 0] 39))) :
    if Region.wanted o (yielded ops a.tmps) = true then o.wp Try.prog a w K Q else E := by
  rw [if_pos (by simp [Region.wanted, hgd])]
  unfold Oper.wp
  simp only [execOp, ho, List.map_toArray, List.map_cons, List.map_nil, hy]
  simp [go_sem, Oper.upon]
  exact h
theorem step_put {p q : Operand} {g n c : Nat} {vo : Option Addr} {old : Value} (hgd : o.guard = none) (ho : o.op = .store 28 p q) (hp : a.eval p = .pointer (some ⟨g, 3, none⟩)) (hq : a.eval q = .slice vo n c) (hc : w.cell? ⟨g, 3, none⟩ = some old) (hf : w.frozen? ⟨g, 3, none⟩ = false) (h : K (a.put o.dst undef) (w.setCell ⟨g, 3, none⟩ (.slice vo n c))) :
    if Region.wanted o (yielded ops a.tmps) = true then o.wp Try.prog a w K Q else E := by
  rw [if_pos (by simp [Region.wanted, hgd])]
  unfold Oper.wp
  simp only [execOp, ho, hp, hq]
  simp [go_sem, Oper.upon, hc, hf]
  exact h
theorem step_field {p : Operand} {g : Nat} (hgd : o.guard = none) (ho : o.op = .fieldAddr 30 p 3) (hp : a.eval p = .pointer (some ⟨g, 0, none⟩)) (h : K (a.put o.dst (.pointer (some ⟨g, 3, none⟩))) w) :
    if Region.wanted o (yielded ops a.tmps) = true then o.wp Try.prog a w K Q else E := by
  rw [if_pos (by simp [Region.wanted, hgd])]
  unfold Oper.wp
  simp only [execOp, ho, hp]
  simp [go_sem, Oper.upon]
  exact h
variable {S : World → Prop}
theorem y_move {p : Operand} {v : Value} (hgd : o.guard = none) (ho : o.op = .move p) (hp : a.eval p = v) : YieldsIf Try.prog ops S o v a := by
  refine .inl ⟨by simp [Region.wanted, hgd], fun u _ => ?_⟩
  simp only [execOp, ho, hp]
  simp [go_sem]
theorem y_parts {p : Operand} {g : Nat} (hgd : o.guard = none) (ho : o.op = .fieldAddr 30 p 3) (hp : a.eval p = .pointer (some ⟨g, 0, none⟩)) : YieldsIf Try.prog ops S o (.pointer (some ⟨g, 3, none⟩)) a := by
  refine .inl ⟨by simp [Region.wanted, hgd], fun u _ => ?_⟩
  simp only [execOp, ho, hp]
  simp [go_sem]
theorem y_cat {p : Operand} {g : Nat} (hgd : o.guard = none) (ho : o.op = .fieldAddr 35 p 1) (hp : a.eval p = .pointer (some ⟨g, 0, none⟩)) : YieldsIf Try.prog ops S o (.pointer (some ⟨g, 1, none⟩)) a := by
  refine .inl ⟨by simp [Region.wanted, hgd], fun u _ => ?_⟩
  simp only [execOp, ho, hp]
  simp [go_sem]
theorem y_load {p : Operand} {g n c : Nat} {vo : Option Addr} (hgd : o.guard = none) (ho : o.op = .load 28 p) (hp : a.eval p = .pointer (some ⟨g, 3, none⟩)) (hS : ∀ u, S u → u.cell? ⟨g, 3, none⟩ = some (.slice vo n c)) : YieldsIf Try.prog ops S o (.slice vo n c) a := by
  refine .inl ⟨by simp [Region.wanted, hgd], fun u hu => ?_⟩
  have h := hS u hu
  simp only [execOp, ho, hp]
  simp [go_sem, h]
theorem y_text {p : Operand} {g : Nat} {c : ByteArray} (hgd : o.guard = none) (ho : o.op = .load 9 p) (hp : a.eval p = .pointer (some ⟨g, 1, none⟩)) (hS : ∀ u, S u → u.cell? ⟨g, 1, none⟩ = some (.string c)) : YieldsIf Try.prog ops S o (.string c) a := by
  refine .inl ⟨by simp [Region.wanted, hgd], fun u hu => ?_⟩
  have h := hS u hu
  simp only [execOp, ho, hp]
  simp [go_sem, h]
theorem y_to {p q : Operand} {vo uo : Option Addr} {n c n' c' : Nat} {s : Int} (hgd : o.guard = none) (ho : o.op = .slice 28 p none (some q) none) (hp : a.eval p = .slice vo n c) (hq : a.eval q = .int .i64 s) (hr : ∀ u, (Instr.slice 28 (.slice vo n c) none (some (.int .i64 s)) none).run Try.prog u = .ok (.slice uo n' c') u) : YieldsIf Try.prog ops S o (.slice uo n' c') a := by
  refine .inl ⟨by simp [Region.wanted, hgd], fun u _ => ?_⟩
  simp only [execOp, ho, hp, Option.map_some, Option.map_none, hq]
  simp [Instr.sliceAt, hr]
theorem y_from {p q : Operand} {vo uo : Option Addr} {n c n' c' : Nat} {s : Int} (hgd : o.guard = none) (ho : o.op = .slice 28 p (some q) none none) (hp : a.eval p = .slice vo n c) (hq : a.eval q = .int .i64 s) (hr : ∀ u, (Instr.slice 28 (.slice vo n c) (some (.int .i64 s)) none none).run Try.prog u = .ok (.slice uo n' c') u) : YieldsIf Try.prog ops S o (.slice uo n' c') a := by
  refine .inl ⟨by simp [Region.wanted, hgd], fun u _ => ?_⟩
  simp only [execOp, ho, hp, Option.map_some, Option.map_none, hq]
  simp [Instr.sliceAt, hr]
theorem y_row {p q : Operand} {c : ByteArray} {bp : Int} (hgd : o.guard = none) (ho : o.op = .build 39 #[(0, p), (1, q)]) (hp : a.eval p = .string c) (hq : a.eval q = .int .i64 bp) : YieldsIf Try.prog ops S o (.agg #[.string c, .int .i64 bp, .int .i64 0, .int .i64 0]) a := by
  refine .inl ⟨by simp [Region.wanted, hgd], fun u _ => ?_⟩
  simp only [execOp, ho, List.map_toArray, List.map_cons, List.map_nil, hp, hq]
  simp [go_sem]
end
end Go.Proofs.Ythcaecinjmnlbaa
