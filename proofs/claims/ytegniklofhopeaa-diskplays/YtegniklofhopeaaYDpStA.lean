/- SLICES OF TEXTS OF THE CALL'S OWN: made with room, appended to, read. -/
import Derived.Test.YtegniklofhopeaaZDp1
set_option maxRecDepth 100000
set_option linter.unusedVariables false
namespace Go.Proofs.Ytegniklofhopeaa.St
open Go.RowKit
open Mem
theorem info : (Try.prog.info? 9).map (fun i => (i.zero,i.size,i.bytes)) = some (some (.string .empty),1,16) := by kernel_rfl
def Own (w : World) (B : Nat) (v : Value) (xs : List ByteArray) : Prop := w.ownsRow B 9 1 v xs.length (xs.map Value.string)
def zeros (n : Nat) : Array Value := (List.replicate n (Value.string .empty)).toArray
theorem made (n : Nat) : madeCells (Value.string .empty).cells (n * 1) = zeros n := by
 apply Array.ext_getElem?
 intro j
 unfold madeCells zeros
 rw [Array.getElem?_map,Array.getElem?_range,List.getElem?_toArray,List.getElem?_replicate,Nat.mul_one]
 split
 ·
  simp only [Option.map_some]
  rw [show (Value.string .empty).cells.size = 1 from rfl,Nat.mod_one]
  rfl
 · rfl
theorem make_cap (n : Nat) (hn : n ≤ 1000) (u : World) : (Instr.makeSlice 44 (.int .i64 0) (.int .i64 (n : Int))).run Try.prog u =
  .ok (.slice (some ⟨u.heap.size,0,none⟩) 0 n) (u.alloc (.cells (zeros n) 9)) := by
 obtain ⟨i0,hi,hz0,hz1,hz2⟩ := info_parts info
 have h := run_make (P := Try.prog) u 44 9 i0 (.string .empty) Try.underlying44 hi hz0 .i64 .i64 0 (n : Int) (by omega) (by omega) (by rw [hz2]; omega) (by omega)
 rw [hz1,Int.toNat_natCast,made] at h
 exact h
theorem own_cap (u : World) (B c : Nat) (hB : B ≤ u.heap.size) (hc : c ≤ 1000) : Own (u.alloc (.cells (zeros c) 9)) B (.slice (some ⟨u.heap.size,0,none⟩) 0 c) [] :=
 ⟨rfl,.inr ⟨u.heap.size,c,zeros c,rfl,hB,heap_alloc_new u _,Nat.zero_le _,by have : maxLen = 9223372036854775807 := rfl; omega,by unfold zeros; rw [List.size_toArray,List.length_replicate]; omega,rfl⟩⟩
theorem own_nil (w : World) (B : Nat) : Own w B (.slice none 0 0) [] := ⟨rfl,.inl ⟨rfl,rfl⟩⟩
theorem cell_one (u : World) (v : Value) (t : TypeId) (j : Nat) (z : Value) (h : [v][j]? = some z) : (u.alloc (.cells #[v] t)).cell? ((⟨u.heap.size,0,none⟩ : Addr).add j) = some z := by
 rcases j with _ | j
 ·
  simp only [List.getElem?_cons_zero,Option.some.injEq] at h
  subst h
  simp [Addr.add,go_sem]
 · simp at h
theorem app {ops : Array Oper} {rest : List Oper} {o : Oper} {a : Act} {Q : Exit → Act → World → Prop} (u : World) (x : ByteArray) (hgd : o.guard = none) (s t : Operand)
  (ho : o.op = .call { callee := .builtin .append,args := #[s,t],argTypes := #[44,44] }) (B : Nat) (v : Value) (xs : List ByteArray) (hs : a.eval s = v) (hown : Own u B v xs)
  (hx : a.eval t = .slice (some ⟨u.heap.size,0,none⟩) 1 1) (hm : xs.length ≤ 100000) (hB : B ≤ u.heap.size)
  (h : ∀ v' w1,Own w1 B v' (xs ++ [x]) → (u.alloc (.cells #[.string x] 9)).grownBy w1 v.ownBlock → wpList Try.prog ops Q rest (a.put o.dst v') w1) :
  wpList Try.prog ops Q (o :: rest) a (u.alloc (.cells #[.string x] 9)) := by
 obtain ⟨i0,hi,hz0,hz1,hz2⟩ := info_parts info
 have hmx : maxLen = 9223372036854775807 := rfl
 refine wpList_append_own_at (w := u.alloc (.cells #[.string x] 9)) hgd s t 44 ho B 9 i0 (.string .empty) 1 16 Try.underlying44 hi hz0 hz1 hz2 rfl (by omega) v xs.length (xs.map Value.string) hs (World.ownsRow.alloc hown _) ⟨u.heap.size,0,none⟩ 1 1 [.string x] hx rfl (cell_one u _ _) (fun z hz => by rw [List.mem_singleton.1 hz]; rfl) (by omega) (by omega) (by simp; omega) ?_
 intro v' w' h1 h2 _ h3
 refine h v' w' ?_ h2
 unfold Own
 rw [List.length_append,List.map_append]
 exact h1
variable {w u : World} {B : Nat} {v : Value} {xs : List ByteArray}
theorem Own.below (h : Own w B v xs) (k : Below w.heap.size w u) : Own u B v xs := by
 obtain ⟨h1,h2⟩ := h
 refine ⟨h1,?_⟩
 rcases h2 with h2 | ⟨g,cap,cur,h',hb,hg,h3⟩
 · exact .inl h2
 ·
  have hl : g < w.heap.size := (Array.getElem?_eq_some_iff.1 hg).1
  exact .inr ⟨g,cap,cur,h',hb,(k.block g hl).trans hg,h3⟩
theorem own_ge (h : Own w B v xs) : ∀ k,v.ownBlock = some k → B ≤ k := by
 intro k hk
 rcases h.2 with ⟨h',_⟩ | ⟨g,cap,cur,h',hb,_⟩
 ·
  rw [h'] at hk
  cases hk
 ·
  rw [h'] at hk
  simp only [Value.ownBlock,Option.some.injEq] at hk
  omega
structure Ls (w : World) (ao : Option Addr) (n cap : Nat) (xs : List ByteArray) : Prop where
 len : n = xs.length
 fits : n ≤ cap
 reach : cap ≤ 9223372036854775807
 seg : xs = [] ∨ ∃ b off,ao = some ⟨b,off,none⟩ ∧ ∀ (k : Nat) (hk : k < xs.length),w.cell? ⟨b,off + k,none⟩ = some (.string xs[k])
theorem Ls.below {ao : Option Addr} {n cap : Nat} (h : Ls w ao n cap xs) (k : Below w.heap.size w u) : Ls u ao n cap xs := by
 refine ⟨h.len,h.fits,h.reach,?_⟩
 rcases h.seg with e | ⟨b,off,e,hc⟩
 · exact .inl e
 · exact .inr ⟨b,off,e,fun i hi => by rw [(bcell k).1 _ _ (cell_lt (hc i hi))]; exact hc i hi⟩
theorem Ls.at {ao : Option Addr} {n cap : Nat} (h : Ls w ao n cap xs) (hn : 0 < n) : ∃ b off,ao = some ⟨b,off,none⟩ := by
 rcases h.seg with e | ⟨b,off,e,hc⟩
 ·
  have := h.len
  rw [e] at this
  simp only [List.length_nil] at this
  omega
 · exact ⟨b,off,e⟩
theorem Ls.row {b off n cap : Nat} (h : Ls w (some ⟨b,off,none⟩) n cap xs) (k : Nat) (hk : k < xs.length) : w.cell? ⟨b,off + k,none⟩ = some (.string xs[k]) := by
 rcases h.seg with e | ⟨b',off',e,hc⟩
 ·
  rw [e] at hk
  cases hk
 ·
  cases e
  exact hc k hk
theorem own_ls (h : Own w B v xs) : ∃ ao cap,v = .slice ao xs.length cap ∧ Ls w ao xs.length cap xs := by
 rcases h.2 with ⟨h',h2⟩ | ⟨g,cap,cur,h',hb,hg,hnc,hcm,hcs,htake⟩
 ·
  have e : xs = [] := List.length_eq_zero_iff.1 h2
  subst e
  exact ⟨none,0,h',rfl,Nat.le_refl _,by omega,.inl rfl⟩
 ·
  refine ⟨_,cap,h',rfl,hnc,hcm,?_⟩
  refine .inr ⟨g,0,rfl,fun k hk => ?_⟩
  rw [Nat.zero_add,cell_of_row w g k _ _ _ hg]
  have h5 : (cur.toList.take (xs.length * 1))[k]? = (xs.map Value.string)[k]? := by rw [htake]
  rw [List.getElem?_take_of_lt (by omega),List.getElem?_map,List.getElem?_eq_getElem hk] at h5
  simpa using h5
end Go.Proofs.Ytegniklofhopeaa.St
