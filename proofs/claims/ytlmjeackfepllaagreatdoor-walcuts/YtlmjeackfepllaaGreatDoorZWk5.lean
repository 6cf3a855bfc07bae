import Derived.Deep.RegionLaw
import Derived.Test.YtlmjeackfepllaaGreatDoorZWk2
import Derived.Test.YtlmjeackfepllaaGreatDoorZWk3
import Derived.Test.YtlmjeackfepllaaGreatDoorZWk4
set_option maxRecDepth 100000
set_option linter.unusedVariables false
namespace Go.Proofs.YtlmjeackfepllaaGreatDoor.Fl
open Go.RowKit
open Mem Dk
theorem zero_cells (n : Nat) : (Builtin.zeroCells zeroV.cells n).toList = (List.replicate n zero).flatMap rv := by
 have h := congrArg Array.toList (made n)
 unfold zeros at h
 rw [List.toList_toArray] at h
 exact h
theorem grow_row (M : List T) (i a b : Nat) : ((M.take i).flatMap rv).toArray ++ Builtin.zeroCells zeroV.cells a ++ Builtin.zeroCells zeroV.cells b = ((M.take i).flatMap rv ++ (List.replicate (a + b) zero).flatMap rv).toArray := by
 apply Array.toList_inj.1
 rw [Array.toList_append,Array.toList_append,zero_cells,zero_cells,List.toList_toArray,List.toList_toArray,List.append_assoc,← flat_app,List.replicate_append_replicate]
theorem grow_one {M : List T} {r : T} {n i k : Nat} (hn : n = M.length) (hi : i < n) : rlaid ((M.take i).flatMap rv ++ (List.replicate (k + 1) zero).flatMap rv) [r] i = (M.take i).flatMap rv ++ rv r ++ (List.replicate k zero).flatMap rv := by
 unfold rlaid
 have h1 : ((M.take i).flatMap rv).length = i * 3 := by rw [flat_len,List.length_take,Nat.min_eq_left (by omega)]
 have e1 : ((M.take i).flatMap rv ++ (List.replicate (k + 1) zero).flatMap rv).take (i * 3) = (M.take i).flatMap rv := List.take_left' h1
 have e2 : ((M.take i).flatMap rv ++ (List.replicate (k + 1) zero).flatMap rv).drop ((i + [r].length) * 3) = (List.replicate k zero).flatMap rv := by
  rw [List.replicate_succ,List.flatMap_cons,← List.append_assoc,List.drop_left' (by rw [List.length_append,h1,rv_len,List.length_singleton]; omega)]
 rw [e1,e2,List.flatMap_cons,List.flatMap_nil,List.append_nil]
theorem grow_two {M : List T} {r : T} {n i k : Nat} (hn : n = M.length) (hi : i < n) : rlaid ((M.take i).flatMap rv ++ rv r ++ (List.replicate ((n - i) + k) zero).flatMap rv) (M.drop i) (i + 1) = (M.take i ++ r :: M.drop i).flatMap rv ++ (List.replicate k zero).flatMap rv := by
 unfold rlaid
 have h1 : ((M.take i).flatMap rv ++ rv r).length = (i + 1) * 3 := by rw [List.length_append,flat_len,List.length_take,rv_len,Nat.min_eq_left (by omega)]; omega
 have h2 : (M.drop i).length = n - i := by rw [List.length_drop,hn]
 have e1 : ((M.take i).flatMap rv ++ rv r ++ (List.replicate ((n - i) + k) zero).flatMap rv).take ((i + 1) * 3) = (M.take i).flatMap rv ++ rv r := List.take_left' h1
 have e2 : ((M.take i).flatMap rv ++ rv r ++ (List.replicate ((n - i) + k) zero).flatMap rv).drop ((i + 1 + (M.drop i).length) * 3) = (List.replicate k zero).flatMap rv := by
  rw [← List.replicate_append_replicate,flat_app,← List.append_assoc,List.drop_left' (by rw [List.length_append,h1,flat_len,List.length_replicate,h2]; omega)]
 rw [e1,e2,flat_app,List.flatMap_cons]
 simp only [List.append_assoc]
set_option maxHeartbeats 4000000 in
theorem insert_grow (w : World) (g n cap vb i : Nat) (M : List T) (r : T) (h : Own w 0 (.slice (some ⟨g,0,none⟩) n cap) M) (hv : w.heap[vb]? = some (block r)) (hi : i < n) (hroom : cap < n + 1) (hm : n ≤ 1000) :
  Calls Tryz.prog 114 #[.slice (some ⟨g,0,none⟩) n cap,.int .i64 (i : Int),.slice (some ⟨vb,0,none⟩) 1 1] w (InsE w (.slice (some ⟨g,0,none⟩) n cap) M i r) := by
 obtain ⟨cs,hR,hl,ht,hn,hnc,hcm,_⟩ := own_raw h
 have hgl : g < w.heap.size := (Array.getElem?_eq_some_iff.1 hR).1
 have hvl : vb < w.heap.size := (Array.getElem?_eq_some_iff.1 hv).1
 obtain ⟨i0,hi0,hz0,hz1,hz2⟩ := info_parts info
 obtain ⟨G,hG⟩ : ∃ G,grownCap w (n + 1) cap 90 = G := ⟨_,rfl⟩
 have hGn : n + 1 ≤ G := hG ▸ grownCap_ge w _ _ _
 have hG63 : G ≤ 9223372036854775807 := by
  have := grownCap_le_maxLen w (n + 1) cap 90 (by unfold maxLen; omega)
  rw [hG] at this
  unfold maxLen at this
  omega
 obtain ⟨W1,hW1⟩ : ∃ W1,w.drew.alloc (.cells ((M.take i).flatMap rv ++ (List.replicate ((n + 1 - i) + (G - (n + 1))) zero).flatMap rv).toArray 90) = W1 := ⟨_,rfl⟩
 have hold : (Builtin.firstCells i0.size i (.slice (some ⟨g,0,none⟩) i cap)).run Tryz.prog w.drew = .ok ((M.take i).flatMap rv).toArray w.drew := by
  rw [hz1]
  refine run_firstCells_some w.drew 3 i ⟨g,0,none⟩ i cap _ (by rw [flat_len,List.length_take,Nat.min_eq_left (by omega)]) (fun j v hj => ?_)
  have hrow : ∀ (k : Nat) (hk : k < (M.take i).length),At w.drew g (0 + k * 3) (M.take i)[k] := fun k hk => by
   rw [List.length_take] at hk
   have := (own_at (own_drew h) k (by omega)).1
   rw [List.getElem_take,Nat.zero_add]
   exact this
  exact news_of hrow j v hj
 have hik : i + (n + 1 - i) = n + 1 := by omega
 have hrz : ∀ ty,(Builtin.append_ #[74,3] ty #[.slice (some ⟨g,0,none⟩) i cap,.int .i64 ((n : Int) + 1 - (i : Int))]).run Tryz.prog w = .ok (.slice (some ⟨w.heap.size,0,none⟩) (n + 1) G) W1 := fun ty => by
  have hk := Lib.run_append_grow_zeros w 74 3 ty 90 i0 _ .i64 .i64 Tryz.underlying74 Tryz.underlying3 hi0 hz0 (some ⟨g,0,none⟩) i cap _ hold (n + 1 - i) (by omega) (by rw [hz1]; omega) (by omega) (by omega) (by rw [hz2]; omega) (by rw [hz2,hik]; exact growslice_fits hroom (by omega))
  rw [hik,hG,grow_row,hW1] at hk
  rw [show (n : Int) + 1 - (i : Int) = ((n + 1 - i : Nat) : Int) by omega]
  exact hk
 have hs0 := slice_to g n cap i (i : Int) rfl (by omega) hcm
 have hs1 := slice_from g n cap i (n - i) (cap - i) (i : Int) rfl (by omega) (by omega) (by omega) (by omega) hcm
 have hs2 := slice_from w.heap.size (n + 1) G i (n + 1 - i) (G - i) (i : Int) rfl (by omega) (by omega) (by omega) (by omega) hG63
 have hs3 := slice_from w.heap.size (n + 1) G (i + 1) (n - i) (G - (i + 1)) ((i : Int) + 1) (by omega) (by omega) (by omega) (by omega) (by omega) hG63
 have hR1 : Raw W1 w.heap.size ((M.take i).flatMap rv ++ (List.replicate ((G - i - 1) + 1) zero).flatMap rv) := by
  rw [← hW1,show (G - i - 1) + 1 = (n + 1 - i) + (G - (n + 1)) by omega]
  exact heap_alloc_new w.drew _
 have hb1 : Below w.heap.size w W1 := by
  rw [← hW1]
  exact (Below.refl _ _).drew.alloc (Nat.le_refl _) _
 have hd : (M.drop i).length = n - i := by rw [List.length_drop,hn]
 have hlen1 : ((M.take i).flatMap rv ++ (List.replicate ((G - i - 1) + 1) zero).flatMap rv).length = G * 3 := by
  rw [List.length_append,flat_len,flat_len,List.length_take,List.length_replicate,Nat.min_eq_left (by omega)]
  omega
 obtain ⟨W2,hW2⟩ : ∃ W2,W1.setRow w.heap.size (rcells ((M.take i).flatMap rv ++ rv r ++ (List.replicate (G - i - 1) zero).flatMap rv)) = W2 := ⟨_,rfl⟩
 have hcp1 : ∀ ty dc,(Builtin.copy_ #[74,74] ty #[.slice (some ⟨w.heap.size,i * 3,none⟩) (n + 1 - i) dc,.slice (some ⟨vb,0,none⟩) 1 1]).run Tryz.prog W1 = .ok (goInt 1) W2 := fun ty dc => by
  have hsg := seg_block ((hb1.block vb hvl).trans hv)
  have hcp := copy_raw W1 w.heap.size _ i (n + 1 - i) dc vb 0 1 1 [r] hR1 (by simp only [Nat.min_def,List.length_singleton]; split <;> omega) (by rw [hlen1]; simp only [List.length_singleton]; omega) (by
   rcases hsg with e | ⟨b,off,e,hat⟩
   · cases e
   ·
    cases e
    exact hat) ty
  rw [grow_one hn hi,hW2] at hcp
  exact hcp
 have hR2 : Raw W2 w.heap.size ((M.take i).flatMap rv ++ rv r ++ (List.replicate ((n - i) + (G - (n + 1))) zero).flatMap rv) := by
  rw [← hW2,show (n - i) + (G - (n + 1)) = G - i - 1 by omega]
  exact hR1.laid _
 have hlen2 : ((M.take i).flatMap rv ++ rv r ++ (List.replicate ((n - i) + (G - (n + 1))) zero).flatMap rv).length = G * 3 := by
  rw [List.length_append,List.length_append,flat_len,flat_len,List.length_take,List.length_replicate,rv_len,Nat.min_eq_left (by omega)]
  omega
 have hb2 : Below w.heap.size w W2 := by
  rw [← hW2]
  exact below_setRow hb1 (Nat.le_refl _) _
 obtain ⟨W3,hW3⟩ : ∃ W3,W2.drew.setRow w.heap.size (rcells ((M.take i ++ r :: M.drop i).flatMap rv ++ (List.replicate (G - (n + 1)) zero).flatMap rv)) = W3 := ⟨_,rfl⟩
 have hcp2 : ∀ ty dc sc,(Builtin.copy_ #[74,74] ty #[.slice (some ⟨w.heap.size,(i + 1) * 3,none⟩) (n - i) dc,.slice (some ⟨g,i * 3,none⟩) (n - i) sc]).run Tryz.prog W2.drew = .ok (goInt (n - i : Nat)) W3 := fun ty dc sc => by
  have hO2 := own_drew (own_below h hb2)
  have hcp := copy_raw W2.drew w.heap.size _ (i + 1) (n - i) dc g (i * 3) (n - i) sc (M.drop i) hR2.drew (by rw [hd]; simp only [Nat.min_def]; split <;> omega) (by rw [hd,hlen2]; omega) (fun k hk => by
   have hr := (own_at hO2 (i + k) (by omega)).1
   rw [List.getElem_drop,show i * 3 + k * 3 = (i + k) * 3 by omega]
   exact hr) ty
  rw [grow_two hn hi,hW3,hd] at hcp
  exact hcp
 have hlen3 : ((M.take i ++ r :: M.drop i).flatMap rv).length = (n + 1) * 3 := by
  rw [flat_len,List.length_append,List.length_cons,List.length_take,hd,Nat.min_eq_left (by omega)]
  omega
 have HI : Hid (InsE w (.slice (some ⟨g,0,none⟩) n cap) M i r (.returned (.slice (some ⟨w.heap.size,0,none⟩) (n + 1) G)) W3) := Lib.hid (by
  refine ⟨_,rfl,raw_own (cs := (M.take i ++ r :: M.drop i).flatMap rv ++ (List.replicate (G - (n + 1)) zero).flatMap rv) ?_ ?_ ?_ ?_ hGn hG63 (Nat.zero_le _),.inr ⟨_,rfl,Nat.le_refl _⟩,UpdQ.of ?_⟩
  ·
   rw [← hW3]
   exact hR2.drew.laid _
  ·
   rw [List.length_append,hlen3,flat_len,List.length_replicate]
   omega
  · rw [List.take_left' hlen3]
  ·
   rw [List.length_append,List.length_cons,List.length_take,hd,Nat.min_eq_left (by omega)]
   omega
  ·
   rw [← hW3]
   exact below_setRow hb2.drew (Nat.le_refl _) _)
 have hin' : ((i : Int) == (n : Int)) = false := beq_eq_false_iff_ne.2 (by omega)
 have hcn : (cap : Int) < (n : Int) + 1 := by omega
 have hi1 : (i : Int) + 1 ≤ (n : Int) := by omega
 have hw1 : IntKind.i64.wrap ((i : Int) + 1) = (i : Int) + 1 := by rw [IntKind.wrap_i64]; omega
 clear h hv hR hl ht hn hW1 hW2 hW3 hR1 hR2 hb1 hb2 hd hlen1 hlen2 hlen3 hold hG hi0 hz0 hz1 hz2 hgl hvl
 go_enter Tryz.func114,Tryz.ntmps114
 go_wp2_with (at_builtin; refine Lib.wpList_append_run _ rfl _ _ _ _ rfl _ _ rfl rfl _ _ (hrz _) ?_)
 go_region
 go_wp2_with fail
 go_ret
 exact HI.out
theorem insert_any (w : World) (ao : Option Addr) (n cap vb i : Nat) (M : List T) (r : T) (h : Own w 0 (.slice ao n cap) M) (hs : ∀ x ∈ M,Short x) (hv : w.heap[vb]? = some (block r)) (hne : ∀ b,(Value.slice ao n cap).ownBlock = some b → vb ≠ b) (hi : i ≤ n) (hm : n ≤ 1000) :
  Calls Tryz.prog 114 #[.slice ao n cap,.int .i64 (i : Int),.slice (some ⟨vb,0,none⟩) 1 1] w (InsE w (.slice ao n cap) M i r) := by
 by_cases e : i = n
 ·
  subst e
  exact insert_end w ao i cap vb M r h hs hm hv
 ·
  rcases h.2 with ⟨h1,h2⟩ | ⟨g,cap',cur,h1,_⟩
  ·
   simp only [Value.slice.injEq] at h1
   omega
  ·
   simp only [Value.slice.injEq] at h1
   obtain ⟨rfl,_,rfl⟩ := h1
   by_cases hr : n + 1 ≤ cap
   · exact insert_mid w g n cap vb i M r h hv (hne g rfl) (by omega) hr hm
   · exact insert_grow w g n cap vb i M r h hv (by omega) (by omega) hm
end Go.Proofs.YtlmjeackfepllaaGreatDoor.Fl
namespace Go.Proofs.YtlmjeackfepllaaGreatDoor
open Go.RowKit
open Mem Dk
theorem step_append_run {P : Program} {ops : Array Oper} {o : Oper} {a : Act} {w : World} {K : Act → World → Prop} {Q : Exit → Act → World → Prop} {E : Prop}
  (hg : o.guard = none) (s x : Operand) (t t' : TypeId) (hop : o.op = Op.call { callee := Callee.builtin Builtin.append,args := #[s,x],argTypes := #[t,t'] })
  (vs vx : Value) (hs : a.eval s = vs) (hx : a.eval x = vx) (v : Value) (W : World) (hrun : (Builtin.append_ #[t,t'] o.type #[vs,vx]).run P w = .ok v W)
  (hK : K (a.put o.dst v) W) : if Region.wanted o (yielded ops a.tmps) = true then Oper.wp P o a w K Q else E := by
 have hw : Region.wanted o (yielded ops a.tmps) = true := by simp [Region.wanted,hg]
 rw [if_pos hw]
 unfold Oper.wp
 simp [execOp,hop,resolve,invoke,builtin,hs,hx,hrun,Result.andThen]
 exact hK
namespace Fl
theorem rlaid_len {cs : List Value} {rs : List T} {o : Nat} (h : (o + rs.length) * 3 ≤ cs.length) : (rlaid cs rs o).length = cs.length := by
 unfold rlaid
 rw [List.length_append,List.length_append,List.length_take,List.length_drop,flat_len,Nat.min_eq_left (by omega)]
 omega
theorem rlaid_take {cs : List Value} {rs : List T} {o : Nat} (h : o * 3 ≤ cs.length) : (rlaid cs rs o).take (o * 3) = cs.take (o * 3) := by
 unfold rlaid
 rw [List.append_assoc,List.take_left' (by rw [List.length_take]; omega)]
theorem slice_any (g n c k l c' : Nat) (x : Int) (hx : x = (k : Int)) (hk : k + l = n) (hc : k + c' = c) (hn : n ≤ c) (h63 : c ≤ 9223372036854775807) :
  ∃ A : Addr,(∀ u,(Instr.slice 74 (.slice (some ⟨g,0,none⟩) n c) (some (.int .i64 x)) none none).run Tryz.prog u = .ok (.slice (some A) l c') u) ∧ (0 < c' → A = ⟨g,k * 3,none⟩) := by
 by_cases h : 0 < c'
 · exact ⟨_,fun u => slice_from g n c k l c' x hx hk hc h hn h63 u,fun _ => rfl⟩
 ·
  refine ⟨⟨g,0,none⟩,fun u => ?_,fun z => absurd z h⟩
  subst hx
  rw [run_slice_l u 74 (some ⟨g,0,none⟩) n c und .i64 k (by omega) (by omega),size]
  have e1 : n - k = l := by omega
  have e2 : c - k = c' := by omega
  have e3 : c = k := by omega
  have e4 : k - k = c' := by omega
  simp [Result.andThen,sliced,e1,e3,← e4]
theorem append_raw (u : World) (g i cap : Nat) (cs : List Value) (A : Addr) (m c : Nat) (rs : List T) (hb : Raw u g cs) (hm : rs.length = m) (hroom : i + m ≤ cap) (hl : cs.length = cap * 3) (hA : ∀ j x,(rs.flatMap rv)[j]? = some x → u.cell? (A.add j) = some x) (ty : TypeId) :
  (Builtin.append_ #[74,74] ty #[.slice (some ⟨g,0,none⟩) i cap,.slice (some A) m c]).run Tryz.prog u = .ok (.slice (some ⟨g,0,none⟩) (i + m) cap) (u.setRow g (rcells (rlaid cs rs i))) := by
 obtain ⟨i0,hi0,hz0,hz1,hz2⟩ := info_parts info
 have hfl : (rs.flatMap rv).length = m * i0.size := by rw [flat_len,hm,hz1]
 have hfc := run_firstCells_some (P := Tryz.prog) u i0.size m A m c (rs.flatMap rv) hfl hA
 have hst := run_storeCells_at Tryz.prog g (0 + i * i0.size) 90 (rs.flatMap rv) 0 _ u hb (by rw [List.size_toArray,flat_len,hz1,hm]; omega) (one_cell rs)
 have e : (cs.toArray.toList.take (0 + i * i0.size + 0) ++ rs.flatMap rv ++ cs.toArray.toList.drop (0 + i * i0.size + 0 + (rs.flatMap rv).length)) = rlaid cs rs i := by
  rw [List.toList_toArray,flat_len,hz1,Nat.add_zero,Nat.zero_add,show i * 3 + rs.length * 3 = (i + rs.length) * 3 by omega]
  rfl
 rw [e,Nat.zero_add] at hst
 unfold rcells
 simp [Builtin.append_,run_underlying Tryz.underlying74,sizeOf,typeInfo,hi0,Builtin.lenOf,hroom,hfc,Addr.add_lit,hst]
theorem clear_raw (u : World) (g k c : Nat) (cs : List Value) (hb : Raw u g cs) (hl : (k + 1) * 3 ≤ cs.length) (ty : TypeId) :
  (Builtin.clear_ #[74] ty #[.slice (some ⟨g,k * 3,none⟩) 1 c]).run Tryz.prog u = .ok (.tuple #[]) (u.setRow g (rcells (rlaid cs [zero] k))) := by
 have hst := run_storeCells_at Tryz.prog g (k * 3) 90 ((List.replicate 1 zero).flatMap rv) 0 _ u hb (by rw [List.size_toArray,flat_len,List.length_replicate]; omega) (one_cell _)
 have e : (cs.toArray.toList.take (k * 3 + 0) ++ (List.replicate 1 zero).flatMap rv ++ cs.toArray.toList.drop (k * 3 + 0 + ((List.replicate 1 zero).flatMap rv).length)) = rlaid cs [zero] k := by
  rw [List.toList_toArray,flat_len,Nat.add_zero,List.length_replicate,show k * 3 + 1 * 3 = (k + 1) * 3 by omega]
  rfl
 rw [e] at hst
 have hz : ∀ u,(zeroValue 90).run Tryz.prog u = .ok zeroV u := Tryz.zeroValue90
 unfold rcells
 simp only [Builtin.clear_,Sem.run_bind,Sem.run_pure,run_underlying Tryz.underlying74,Result.andThen_ok,List.getElem?_toArray,List.getElem?_cons_zero,hz,zero_cells,hst]
def DelE (w : World) (v : Value) (M : List T) (i : Nat) (e : Ending) (w' : World) : Prop := ∃ v',e = .returned v' ∧ Own w' 0 v' (M.take i ++ M.drop (i + 1)) ∧ v'.ownBlock = v.ownBlock ∧ UpdQ (fun b => v.ownBlock = some b) w w'
set_option maxHeartbeats 4000000 in
theorem delete_one (w : World) (ao : Option Addr) (n cap i : Nat) (M : List T) (h : Own w 0 (.slice ao n cap) M) (hi : i < n) (hm : n ≤ 1000) :
  Calls Tryz.prog 122 #[.slice ao n cap,.int .i64 (i : Int),.int .i64 ((i : Int) + 1)] w (DelE w (.slice ao n cap) M i) := by
 obtain ⟨g,rfl⟩ : ∃ g,ao = some ⟨g,0,none⟩ := by
  rcases h.2 with ⟨h1,h2⟩ | ⟨g,cap',cur,h1,_⟩
  ·
   simp only [Value.slice.injEq] at h1
   omega
  ·
   simp only [Value.slice.injEq] at h1
   exact ⟨g,h1.1⟩
 obtain ⟨cs,hR,hl,ht,hn,hnc,hcm,_⟩ := own_raw h
 have hs0 : ∀ u,(Instr.slice 74 (.slice (some ⟨g,0,none⟩) n cap) (some (.int .i64 (i : Int))) (some (.int .i64 ((i : Int) + 1))) (some (.int .i64 (n : Int)))).run Tryz.prog u = .ok (.slice (some ⟨g,i * 3,none⟩) 1 (n - i)) u := fun u => by
  rw [run_slice_lhm u 74 (some ⟨g,0,none⟩) n cap und .i64 .i64 .i64 i ((i : Int) + 1) n (by omega) (by omega) (by omega) (by omega),size]
  have e1 : ((i : Int) + 1).toNat = i + 1 := by omega
  have e3 : ¬ n = i := by omega
  simp [Result.andThen,sliced,e1,e3,Addr.add]
  intro z
  exact z.symm
 have hs1 := slice_to g n cap i (i : Int) rfl (by omega) hcm
 obtain ⟨A,hs2,hA⟩ := slice_any g n cap (i + 1) (n - (i + 1)) (cap - (i + 1)) ((i : Int) + 1) (by omega) (by omega) (by omega) (by omega) hcm
 have hd : (M.drop (i + 1)).length = n - (i + 1) := by rw [List.length_drop,hn]
 obtain ⟨W1,hW1⟩ : ∃ W1,w.drew.setRow g (rcells (rlaid cs (M.drop (i + 1)) i)) = W1 := ⟨_,rfl⟩
 have hnn : i + (n - (i + 1)) = n - 1 := by omega
 have hap : ∀ ty,(Builtin.append_ #[74,74] ty #[.slice (some ⟨g,0,none⟩) i cap,.slice (some A) (n - (i + 1)) (cap - (i + 1))]).run Tryz.prog w.drew = .ok (.slice (some ⟨g,0,none⟩) (n - 1) cap) W1 := fun ty => by
  have := append_raw w.drew g i cap cs A (n - (i + 1)) (cap - (i + 1)) (M.drop (i + 1)) hR.drew hd (by omega) hl (fun j x hx => by
   have hj : j < (M.drop (i + 1)).length * 3 := by
    have := (List.getElem?_eq_some_iff.1 hx).1
    rwa [flat_len] at this
   rw [hA (by omega)]
   refine news_of (off := (i + 1) * 3) (fun k hk => ?_) j x hx
   have hr := (own_at (own_drew h) (i + 1 + k) (by omega)).1
   rw [List.getElem_drop,show (i + 1) * 3 + k * 3 = (i + 1 + k) * 3 by omega]
   exact hr) ty
  rw [hnn,hW1] at this
  exact this
 have hlen1 : (rlaid cs (M.drop (i + 1)) i).length = cap * 3 := by rw [rlaid_len (by rw [hd]; omega),hl]
 have hR1 : Raw W1 g (rlaid cs (M.drop (i + 1)) i) := hW1 ▸ hR.drew.laid _
 have hs3 : ∀ u,(Instr.slice 74 (.slice (some ⟨g,0,none⟩) (n - 1) cap) (some (.int .i64 ((n - 1 : Nat) : Int))) (some (.int .i64 (n : Int))) none).run Tryz.prog u = .ok (.slice (some ⟨g,(n - 1) * 3,none⟩) 1 (cap - (n - 1))) u := fun u => by
  rw [run_slice_lh u 74 (some ⟨g,0,none⟩) (n - 1) cap und .i64 .i64 ((n - 1 : Nat) : Int) n (by omega) (by omega) (by omega),size]
  have e1 : ((n - 1 : Nat) : Int).toNat = n - 1 := by omega
  have e2 : n - (n - 1) = 1 := by omega
  have e3 : ¬ cap = n - 1 := by omega
  simp [Result.andThen,sliced,e1,e2,e3,Addr.add]
  intro z
  exact z.symm
 obtain ⟨W2,hW2⟩ : ∃ W2,W1.setRow g (rcells (rlaid (rlaid cs (M.drop (i + 1)) i) [zero] (n - 1))) = W2 := ⟨_,rfl⟩
 have hcl : ∀ ty c,(Builtin.clear_ #[74] ty #[.slice (some ⟨g,(n - 1) * 3,none⟩) 1 c]).run Tryz.prog W1 = .ok (.tuple #[]) W2 := fun ty c => hW2 ▸ clear_raw W1 g (n - 1) c _ hR1 (by rw [hlen1]; omega) ty
 have HI : Hid (DelE w (.slice (some ⟨g,0,none⟩) n cap) M i (.returned (.slice (some ⟨g,0,none⟩) (n - 1) cap)) W2) := Lib.hid (by
  refine ⟨_,rfl,raw_own (cs := rlaid (rlaid cs (M.drop (i + 1)) i) [zero] (n - 1)) ?_ ?_ ?_ ?_ (by omega) hcm (Nat.zero_le _),rfl,?_⟩
  ·
   rw [← hW2]
   exact hR1.laid _
  · rw [rlaid_len (by rw [hlen1,List.length_singleton]; omega),hlen1]
  ·
   rw [rlaid_take (by rw [hlen1]; omega)]
   unfold rlaid
   rw [flat_app,← flat_take,← ht,List.take_take,Nat.min_eq_left (by omega),List.take_left' (by rw [List.length_append,List.length_take,flat_len,hd,Nat.min_eq_left (by omega)]; omega)]
  ·
   rw [List.length_append,List.length_take,hd,Nat.min_eq_left (by omega)]
   omega
  ·
   rw [← hW2,← hW1]
   exact ((UpdQ.of (Below.refl _ _).drew).trans (UpdQ.row (Q := fun b => (Value.slice (some ⟨g,0,none⟩) n cap).ownBlock = some b) w.drew rfl _)).trans (UpdQ.row (Q := fun b => (Value.slice (some ⟨g,0,none⟩) n cap).ownBlock = some b) _ rfl _))
 have hin' : ((i : Int) == (i : Int) + 1) = false := beq_eq_false_iff_ne.2 (by omega)
 clear h hR hl ht hn hW1 hW2 hR1 hd hlen1 hnn hA
 go_enter Tryz.func122,Tryz.ntmps122
 go_wp2_with fail
 go_region_law (refine step_append_run rfl (.tmp 22) (.tmp 25) 74 74 rfl _ _ (by simp [Act.eval,Act.put]) (by simp [Act.eval,Act.put]) _ _ (hap _) ?_)
 go_wp2_with fail
 go_ret
 exact HI.out
end Fl
end Go.Proofs.YtlmjeackfepllaaGreatDoor
namespace Go.Proofs.YtlmjeackfepllaaGreatDoor.Et
open Go.RowKit
open Mem
theorem slice_from (g n c k l c' : Nat) (x : Int) (hx : x = (k : Int)) (hk : k + l = n) (hc : k + c' = c) (hl : 0 < c') (hn : n ≤ c) (h63 : c ≤ 9223372036854775807) (u : World) :
  (Instr.slice 28 (.slice (some ⟨g,0,none⟩) n c) (some (.int .i64 x)) none none).run Tryz.prog u = .ok (.slice (some ⟨g,k * 3,none⟩) l c') u := by
 subst hx
 rw [run_slice_l u 28 (some ⟨g,0,none⟩) n c und .i64 k (by omega) (by omega),size]
 have e1 : n - k = l := by omega
 have e2 : c - k = c' := by omega
 have e3 : ¬ c = k := by omega
 simp [Result.andThen,sliced,e1,e2,e3,Addr.add]
 intro h
 exact h.symm
theorem slice_to (g n c k : Nat) (x : Int) (hx : x = (k : Int)) (hk : k ≤ c) (h63 : c ≤ 9223372036854775807) (u : World) :
  (Instr.slice 28 (.slice (some ⟨g,0,none⟩) n c) none (some (.int .i64 x)) none).run Tryz.prog u = .ok (.slice (some ⟨g,0,none⟩) k c) u := by
 subst hx
 rw [run_slice_h u 28 (some ⟨g,0,none⟩) n c und .i64 k (by omega) (by omega),size]
 simp [Result.andThen,sliced,Addr.add]
def Raw (w : World) (g : Nat) (cs : List Value) : Prop := w.heap[g]? = some (.cells cs.toArray 36 (0,0))
def rlaid (cs : List Value) (rs : List T) (o : Nat) : List Value := cs.take (o * 3) ++ rs.flatMap rv ++ cs.drop ((o + rs.length) * 3)
def rcells (cs : List Value) : Array Value := cs.toArray
theorem Raw.laid {u : World} {g : Nat} {cs : List Value} (h : Raw u g cs) (ds : List Value) : Raw (u.setRow g (rcells ds)) g ds := setRow_heap u g _ _ 36 _ h
theorem Raw.drew {u : World} {g : Nat} {cs : List Value} (h : Raw u g cs) : Raw u.drew g cs := h
theorem flat_take : ∀ (M : List T) (o : Nat),(M.flatMap rv).take (o * 3) = (M.take o).flatMap rv
 | [],o => by simp
 | a :: l,0 => by simp
 | a :: l,o + 1 => by
  rw [List.flatMap_cons,List.take_succ_cons,List.flatMap_cons,show (o + 1) * 3 = (rv a).length + o * 3 by rw [rv_len]; omega,List.take_length_add_append,flat_take l o]
theorem own_raw {w : World} {B g n cap : Nat} {M : List T} (h : Own w B (.slice (some ⟨g,0,none⟩) n cap) M) : ∃ cs,Raw w g cs ∧ cs.length = cap * 3 ∧ cs.take (n * 3) = M.flatMap rv ∧ n = M.length ∧ n ≤ cap ∧ cap ≤ 9223372036854775807 ∧ B ≤ g := by
 rcases h.2 with ⟨h',_⟩ | ⟨g',cap',cur,h',hb,hg,hnc,hcm,hcs,htake⟩
 · cases h'
 ·
  simp only [Value.slice.injEq,Option.some.injEq,Addr.mk.injEq,and_true] at h'
  obtain ⟨e1,e2,e3⟩ := h'
  subst e1 e3
  refine ⟨cur.toList,?_,by rw [Array.length_toList,hcs],by rw [e2]; exact htake,e2,by rw [e2]; exact hnc,hcm,hb⟩
  unfold Raw
  rw [Array.toArray_toList]
  exact hg
theorem raw_own {w : World} {B g n cap : Nat} {M : List T} {cs : List Value} (h : Raw w g cs) (hl : cs.length = cap * 3) (ht : cs.take (n * 3) = M.flatMap rv) (hn : n = M.length) (hc : n ≤ cap) (hm : cap ≤ 9223372036854775807) (hB : B ≤ g) : Own w B (.slice (some ⟨g,0,none⟩) n cap) M := by
 subst hn
 exact ⟨by rw [flat_len],.inr ⟨g,cap,cs.toArray,rfl,hB,h,hc,by have : maxLen = 9223372036854775807 := rfl; omega,by rw [List.size_toArray,hl],by rw [List.toList_toArray]; exact ht⟩⟩
theorem flat_app (M N : List T) : (M ++ N).flatMap rv = M.flatMap rv ++ N.flatMap rv := List.flatMap_append
theorem zero_cells (n : Nat) : (Builtin.zeroCells zeroV.cells n).toList = (List.replicate n zero).flatMap rv := by
 have h := congrArg Array.toList (made n)
 unfold zeros at h
 rw [List.toList_toArray] at h
 exact h
theorem rlaid_len {cs : List Value} {rs : List T} {o : Nat} (h : (o + rs.length) * 3 ≤ cs.length) : (rlaid cs rs o).length = cs.length := by
 unfold rlaid
 rw [List.length_append,List.length_append,List.length_take,List.length_drop,flat_len,Nat.min_eq_left (by omega)]
 omega
theorem rlaid_take {cs : List Value} {rs : List T} {o : Nat} (h : o * 3 ≤ cs.length) : (rlaid cs rs o).take (o * 3) = cs.take (o * 3) := by
 unfold rlaid
 rw [List.append_assoc,List.take_left' (by rw [List.length_take]; omega)]
theorem slice_any (g n c k l c' : Nat) (x : Int) (hx : x = (k : Int)) (hk : k + l = n) (hc : k + c' = c) (hn : n ≤ c) (h63 : c ≤ 9223372036854775807) :
  ∃ A : Addr,(∀ u,(Instr.slice 28 (.slice (some ⟨g,0,none⟩) n c) (some (.int .i64 x)) none none).run Tryz.prog u = .ok (.slice (some A) l c') u) ∧ (0 < c' → A = ⟨g,k * 3,none⟩) := by
 by_cases h : 0 < c'
 · exact ⟨_,fun u => slice_from g n c k l c' x hx hk hc h hn h63 u,fun _ => rfl⟩
 ·
  refine ⟨⟨g,0,none⟩,fun u => ?_,fun z => absurd z h⟩
  subst hx
  rw [run_slice_l u 28 (some ⟨g,0,none⟩) n c und .i64 k (by omega) (by omega),size]
  have e1 : n - k = l := by omega
  have e2 : c - k = c' := by omega
  have e3 : c = k := by omega
  have e4 : k - k = c' := by omega
  simp [Result.andThen,sliced,e1,e3,← e4]
theorem append_raw (u : World) (g i cap : Nat) (cs : List Value) (A : Addr) (m c : Nat) (rs : List T) (hb : Raw u g cs) (hm : rs.length = m) (hroom : i + m ≤ cap) (hl : cs.length = cap * 3) (hA : ∀ j x,(rs.flatMap rv)[j]? = some x → u.cell? (A.add j) = some x) (ty : TypeId) :
  (Builtin.append_ #[28,28] ty #[.slice (some ⟨g,0,none⟩) i cap,.slice (some A) m c]).run Tryz.prog u = .ok (.slice (some ⟨g,0,none⟩) (i + m) cap) (u.setRow g (rcells (rlaid cs rs i))) := by
 obtain ⟨i0,hi0,hz0,hz1,hz2⟩ := info_parts info
 have hfl : (rs.flatMap rv).length = m * i0.size := by rw [flat_len,hm,hz1]
 have hfc := run_firstCells_some (P := Tryz.prog) u i0.size m A m c (rs.flatMap rv) hfl hA
 have hst := run_storeCells_at Tryz.prog g (0 + i * i0.size) 36 (rs.flatMap rv) 0 _ u hb (by rw [List.size_toArray,flat_len,hz1,hm]; omega) (one_cell rs)
 have e : (cs.toArray.toList.take (0 + i * i0.size + 0) ++ rs.flatMap rv ++ cs.toArray.toList.drop (0 + i * i0.size + 0 + (rs.flatMap rv).length)) = rlaid cs rs i := by
  rw [List.toList_toArray,flat_len,hz1,Nat.add_zero,Nat.zero_add,show i * 3 + rs.length * 3 = (i + rs.length) * 3 by omega]
  rfl
 rw [e,Nat.zero_add] at hst
 unfold rcells
 simp [Builtin.append_,run_underlying Tryz.underlying28,sizeOf,typeInfo,hi0,Builtin.lenOf,hroom,hfc,Addr.add_lit,hst]
theorem clear_raw (u : World) (g k m c : Nat) (cs : List Value) (hb : Raw u g cs) (hl : (k + m) * 3 ≤ cs.length) (h0 : 0 < m) (ty : TypeId) :
  (Builtin.clear_ #[28] ty #[.slice (some ⟨g,k * 3,none⟩) m c]).run Tryz.prog u = .ok (.tuple #[]) (u.setRow g (rcells (rlaid cs (List.replicate m zero) k))) := by
 have hst := run_storeCells_at Tryz.prog g (k * 3) 36 ((List.replicate m zero).flatMap rv) 0 _ u hb (by rw [List.size_toArray,flat_len,List.length_replicate]; omega) (one_cell _)
 have e : (cs.toArray.toList.take (k * 3 + 0) ++ (List.replicate m zero).flatMap rv ++ cs.toArray.toList.drop (k * 3 + 0 + ((List.replicate m zero).flatMap rv).length)) = rlaid cs (List.replicate m zero) k := by
  rw [List.toList_toArray,flat_len,Nat.add_zero,List.length_replicate]
  unfold rlaid
  rw [List.length_replicate,show k * 3 + m * 3 = (k + m) * 3 by omega]
 rw [e] at hst
 have hz : ∀ u,(zeroValue 36).run Tryz.prog u = .ok zeroV u := Tryz.zeroValue36
 unfold rcells
 obtain ⟨q,rfl⟩ : ∃ q,m = q + 1 := ⟨m - 1,by omega⟩
 simp only [Builtin.clear_,Sem.run_bind,Sem.run_pure,run_underlying Tryz.underlying28,Result.andThen_ok,List.getElem?_toArray,List.getElem?_cons_zero,hz,zero_cells,hst]
def CutE (w : World) (v : Value) (M : List T) (i : Nat) (e : Ending) (w' : World) : Prop := ∃ v',e = .returned v' ∧ Own w' 0 v' (M.take i) ∧ v'.ownBlock = v.ownBlock ∧ UpdQ (fun b => v.ownBlock = some b) w w'
set_option maxHeartbeats 4000000 in
theorem delete_tail (w : World) (ao : Option Addr) (n cap i : Nat) (M : List T) (h : Own w 0 (.slice ao n cap) M) (hi : i ≤ n) (hm : n ≤ 1000) :
  Calls Tryz.prog 187 #[.slice ao n cap,.int .i64 (i : Int),.int .i64 (n : Int)] w (CutE w (.slice ao n cap) M i) := by
 have hlen : n = M.length := by
  rcases h.2 with ⟨h1,h2⟩ | ⟨g,cap',cur,h1,_⟩
  ·
   simp only [Value.slice.injEq] at h1
   omega
  ·
   simp only [Value.slice.injEq] at h1
   exact h1.2.1
 have hnc' : n ≤ cap ∧ cap ≤ 9223372036854775807 := by
  rcases h.2 with ⟨h1,h2⟩ | ⟨g,cap',cur,h1,_,_,h3,h4,_⟩
  ·
   simp only [Value.slice.injEq] at h1
   omega
  ·
   simp only [Value.slice.injEq] at h1
   have : maxLen = 9223372036854775807 := rfl
   omega
 by_cases he : i = n
 ·
  subst he
  have hs0 : ∀ u,(Instr.slice 28 (.slice ao i cap) (some (.int .i64 (i : Int))) (some (.int .i64 (i : Int))) (some (.int .i64 (i : Int)))).run Tryz.prog u = .ok (.slice ao 0 0) u := fun u => by
   rw [run_slice_lhm u 28 ao i cap und .i64 .i64 .i64 i i i (by omega) (by omega) (by omega) (by omega),size]
   simp [Result.andThen,sliced]
  have HI : Hid (CutE w (.slice ao i cap) M i (.returned (.slice ao i cap)) w) := Lib.hid ⟨_,rfl,by rw [List.take_of_length_le (by omega)]; exact h,rfl,UpdQ.refl _ _⟩
  have hb : ((i : Int) == (i : Int)) = true := beq_self_eq_true _
  clear h hlen hi
  go_enter Tryz.func187,Tryz.ntmps187
  go_wp2
  go_ret
  exact HI.out
 obtain ⟨g,rfl⟩ : ∃ g,ao = some ⟨g,0,none⟩ := by
  rcases h.2 with ⟨h1,h2⟩ | ⟨g,cap',cur,h1,_⟩
  ·
   simp only [Value.slice.injEq] at h1
   omega
  ·
   simp only [Value.slice.injEq] at h1
   exact ⟨g,h1.1⟩
 obtain ⟨cs,hR,hl,ht,hn,hnc,hcm,_⟩ := own_raw h
 have hs0 : ∀ u,(Instr.slice 28 (.slice (some ⟨g,0,none⟩) n cap) (some (.int .i64 (i : Int))) (some (.int .i64 (n : Int))) (some (.int .i64 (n : Int)))).run Tryz.prog u = .ok (.slice (some ⟨g,i * 3,none⟩) (n - i) (n - i)) u := fun u => by
  rw [run_slice_lhm u 28 (some ⟨g,0,none⟩) n cap und .i64 .i64 .i64 i n n (by omega) (by omega) (by omega) (by omega),size]
  have e3 : ¬ n = i := by omega
  simp [Result.andThen,sliced,e3,Addr.add]
  intro z
  exact z.symm
 have hs1 := slice_to g n cap i (i : Int) rfl (by omega) hcm
 obtain ⟨A,hs2,hA⟩ := slice_any g n cap n 0 (cap - n) (n : Int) rfl (by omega) (by omega) (by omega) hcm
 obtain ⟨W1,hW1⟩ : ∃ W1,w.drew.setRow g (rcells (rlaid cs [] i)) = W1 := ⟨_,rfl⟩
 have hap : ∀ ty,(Builtin.append_ #[28,28] ty #[.slice (some ⟨g,0,none⟩) i cap,.slice (some A) 0 (cap - n)]).run Tryz.prog w.drew = .ok (.slice (some ⟨g,0,none⟩) i cap) W1 := fun ty => by
  have := append_raw w.drew g i cap cs A 0 (cap - n) [] hR.drew rfl (by omega) hl (fun j x hx => by simp at hx) ty
  rw [Nat.add_zero,hW1] at this
  exact this
 have hlen1 : (rlaid cs [] i).length = cap * 3 := by rw [rlaid_len (by simp; omega),hl]
 have hR1 : Raw W1 g (rlaid cs [] i) := hW1 ▸ hR.drew.laid _
 have hs3 : ∀ u,(Instr.slice 28 (.slice (some ⟨g,0,none⟩) i cap) (some (.int .i64 (i : Int))) (some (.int .i64 (n : Int))) none).run Tryz.prog u = .ok (.slice (some ⟨g,i * 3,none⟩) (n - i) (cap - i)) u := fun u => by
  rw [run_slice_lh u 28 (some ⟨g,0,none⟩) i cap und .i64 .i64 i n (by omega) (by omega) (by omega),size]
  have e3 : ¬ cap = i := by omega
  simp [Result.andThen,sliced,e3,Addr.add]
  intro z
  exact z.symm
 obtain ⟨W2,hW2⟩ : ∃ W2,W1.setRow g (rcells (rlaid (rlaid cs [] i) (List.replicate (n - i) zero) i)) = W2 := ⟨_,rfl⟩
 have hcl : ∀ ty c,(Builtin.clear_ #[28] ty #[.slice (some ⟨g,i * 3,none⟩) (n - i) c]).run Tryz.prog W1 = .ok (.tuple #[]) W2 := fun ty c => hW2 ▸ clear_raw W1 g i (n - i) c _ hR1 (by rw [hlen1]; omega) (by omega) ty
 have HI : Hid (CutE w (.slice (some ⟨g,0,none⟩) n cap) M i (.returned (.slice (some ⟨g,0,none⟩) i cap)) W2) := Lib.hid (by
  refine ⟨_,rfl,raw_own (cs := rlaid (rlaid cs [] i) (List.replicate (n - i) zero) i) ?_ ?_ ?_ ?_ (by omega) hcm (Nat.zero_le _),rfl,?_⟩
  ·
   rw [← hW2]
   exact hR1.laid _
  · rw [rlaid_len (by rw [hlen1,List.length_replicate]; omega),hlen1]
  · rw [rlaid_take (by rw [hlen1]; omega),rlaid_take (by omega),← flat_take,← ht,List.take_take,Nat.min_eq_left (by omega)]
  ·
   rw [List.length_take]
   omega
  ·
   rw [← hW2,← hW1]
   exact ((UpdQ.of (Below.refl _ _).drew).trans (UpdQ.row (Q := fun b => (Value.slice (some ⟨g,0,none⟩) n cap).ownBlock = some b) w.drew rfl _)).trans (UpdQ.row (Q := fun b => (Value.slice (some ⟨g,0,none⟩) n cap).ownBlock = some b) _ rfl _))
 have hin' : ((i : Int) == (n : Int)) = false := beq_eq_false_iff_ne.2 (by omega)
 clear h hR hl ht hn hW1 hW2 hR1 hlen1 hA hlen hnc'
 go_enter Tryz.func187,Tryz.ntmps187
 go_wp2_with fail
 go_region_law (refine step_append_run rfl (.tmp 22) (.tmp 25) 28 28 rfl _ _ (by simp [Act.eval,Act.put]) (by simp [Act.eval,Act.put]) _ _ (hap _) ?_)
 go_wp2_with fail
 go_ret
 exact HI.out
end Go.Proofs.YtlmjeackfepllaaGreatDoor.Et
namespace Go.Proofs.YtlmjeackfepllaaGreatDoor.Wl
open Go.RowKit
open Mem
open Go.Sort (grow)
theorem step_app {ops : Array Oper} {o : Oper} {a : Act} {K : Act → World → Prop} {Q : Exit → Act → World → Prop} {E : Prop} (X : World) (hgd : o.guard = none) (s t : Operand)
  (ho : o.op = .call { callee := .builtin .append,args := #[s,t],argTypes := #[28,28] })
  (v : Value) (xs : List Et.T) (hs : a.eval s = v) (hown : Et.Own X 0 v xs)
  (ao : Option Addr) (n cap : Nat) (zs : List Et.T) (ht : a.eval t = .slice ao n cap) (hn : n = zs.length) (hnil : ao = none → cap = 0) (hsrc : Et.Seg X ao zs) (hl : xs.length + n ≤ 100000)
  (h : ∀ v' w1,Et.Own w1 0 v' (xs ++ zs) → X.grownBy w1 v.ownBlock → (v'.ownBlock = v.ownBlock ∨ v'.ownBlock = some X.heap.size) → K (a.put o.dst v') w1) :
  if Region.wanted o (yielded ops a.tmps) = true then Oper.wp Tryz.prog o a X K Q else E := by
 have hw : Region.wanted o (yielded ops a.tmps) = true := by simp [Region.wanted,hgd]
 rw [if_pos hw]
 exact Et.wp_append X s t ho 0 v xs hs hown ao n cap zs ht hn hnil hsrc (by omega) (Nat.zero_le _) h
theorem fits_few {h : H} {e : Et.T} (k : fits h e = true) : h.log.length < 200 := by
 unfold fits at k
 simp only [Bool.and_eq_true,decide_eq_true_eq] at k
 exact k.1
theorem Seg.app {P : Nat → Prop} {w y : World} {g o : Nat} {ty : TypeId} {pre post : List Value} {v : Sl} {s : Sg} {e : Et.T} (h : Seg P w g o ty pre post v s) (hf : fits s.h e = true) (he : Et.Short e) {v' : Value}
  (ho : Et.Own y 0 v' (s.h.log ++ [e])) (hu : UpdQ (fun b => (sv v).ownBlock = some b) w y) (hb : v'.ownBlock = (sv v).ownBlock ∨ ∃ b,v'.ownBlock = some b ∧ w.heap.size ≤ b) :
  StepE P w g o ty pre post s (some (s.with (s.h.with (s.h.log ++ [e])))) (.returned (.bool true)) (y.setCell ⟨g,o + 6,none⟩ v') := by
 obtain ⟨ao,cap,rfl,l,_⟩ := Et.own_ls ho (fun x hx => (List.mem_append.1 hx).elim (h.short x) fun z => by rw [List.mem_singleton.1 z]; exact he)
 have hg : ∀ b,(sv v).ownBlock = some b → b ≠ g := fun b z => (h.pv b z).2
 have hB : Blk y g o ty pre post (row s.h v) s.begun s.ready := ⟨h.blk.1,(hu.block g h.blk.lt fun z => hg g z rfl).trans h.blk.2⟩
 have hs := upd_set y g (o + 6) (.slice ao (s.h.log ++ [e]).length cap)
 have hng : ∀ b,(Value.slice ao (s.h.log ++ [e]).length cap).ownBlock = some b → nw P w b ∧ b ≠ g := fun b z => by
  rcases hb with hb | ⟨c,hb,hc⟩
  ·
   rw [hb] at z
   exact ⟨.inl (h.pv b z).1,hg b z⟩
  ·
   rw [hb] at z
   cases z
   exact ⟨.inr hc,fun q => by have := h.blk.lt; omega⟩
 refine ⟨rfl,⟨⟨ao,(s.h.log ++ [e]).length,cap⟩,⟨hB.set 6 (by omega) _ rfl,hs.rows ho fun b z => (hng b z).2,.inl h.pg,hng,?_,?_,h.base,h.fit,h.snap⟩⟩,(hu.mono fun b z => (h.pv b z).1).trans (hs.mono fun b z => z ▸ h.pg)⟩
 ·
  intro x hx
  exact (List.mem_append.1 hx).elim (h.short x) fun z => by rw [List.mem_singleton.1 z]; exact he
 ·
  have := fits_few hf
  show (s.h.log ++ [e]).length ≤ 200
  rw [List.length_append,List.length_singleton]
  omega
theorem fits_ag (r : Hd.T) (l : List Et.T) (x : Et.T) (u : World) (hl : Et.Ls u r.log.ao r.log.n r.log.cap l) (hb : -1000000000000000000 ≤ r.base ∧ r.base ≤ 1000000000000000000) (hx : Et.Short x) (i : Nat) (os : Array Obj) :
  Calls Tryz.prog 58 #[Hd.val r,Et.val x] (grow (redrawn u i) os) fun e w'' => e = .returned (.bool (fits (Hd.h r l) x)) ∧ ∃ p : Regrown,w'' = grow (redrawn u p.d) p.os := Calls.regrown_of (wl_fits r l x _ (hl.below (below_regrown u i os)) hb hx)
set_option maxHeartbeats 4000000 in
theorem sg_add {P : Nat → Prop} {w : World} {g o : Nat} {ty : TypeId} {pre post : List Value} {s : Sg} (h : In P w g o ty pre post s) (e : Et.T) (he : Et.Short e) :
  Calls Tryz.prog 166 #[.pointer (some ⟨g,o,none⟩),Et.val e] w (StepE P w g o ty pre post s (addS s e)) := by
 have HI := Lib.hid h
 have HSh := Lib.hid he
 obtain ⟨v,h⟩ := h
 obtain ⟨⟨vo,vn,vc⟩,hv⟩ : ∃ x,x = v := ⟨_,rfl⟩
 subst hv
 obtain ⟨W,hW,hbW,hC⟩ := Et.boxed1 w e
 have HBW := Lib.hid hbW
 have hS := h.below hbW
 have HS := Lib.hid hS
 obtain ⟨c0,c1,c2,c3,c4,c5,c6,c7,c8⟩ := hS.blk.cells
 unfold row at c0 c1 c2 c3 c4 c5 c6
 unfold sv at c6
 dsimp only at c0 c1 c2 c3 c4 c5 c6
 unfold Et.C at hC
 obtain ⟨a0,a1,a2⟩ := hC
 have hlt := hS.blk.lt
 have fz := hS.blk.frozen (o + 6)
 have cF := fits_ag (row s.h ⟨vo,vn,vc⟩) s.h.log e W hS.ls (by have := h.base; exact ⟨(by show -1000000000000000000 ≤ s.h.base; omega),(by show s.h.base ≤ 1000000000000000000; omega)⟩) he
 rw [h_row] at cF
 unfold Hd.val Et.val row at cF
 dsimp only at cF
 unfold Et.val
 cases hb : s.begun
 ·
  have HE : Hid (addS s e = none) := Lib.hid (by unfold addS; rw [if_pos hb])
  rw [hb] at c7
  clear h hb hbW fz c0 c1 c2 c3 c4 c5 c6 c8 cF a0 a1 a2 hS
  have c7' := cell_regrown c7
  go_enter Tryz.func166,Tryz.ntmps166
  go_wp2_with fail
  clear hW c7
  refine wp_region_quiet_below (by kernel_rfl) (by kernel_rfl) ?_
  repeat (first | go_big_quiet_step (fail) | quiet_step (fail))
  refine wpQuiet_nil ?_
  intro _ hw'
  obtain ⟨⟨dq,osq⟩,hw''⟩ := hw'
  subst hw''
  have HB2 := Lib.hid (bchain HBW.out (below_regrown W dq osq))
  go_wp2_with fail
  go_ret
  exact StepE.no HE.out HI.out HB2.out
 rw [hb] at c7
 have c0' := cell_regrown c0
 have c1' := cell_regrown c1
 have c2' := cell_regrown c2
 have c3' := cell_regrown c3
 have c4' := cell_regrown c4
 have c5' := cell_regrown c5
 have c6' := cell_regrown c6
 have c7' := cell_regrown c7
 have a0' := cell_regrown a0
 have a1' := cell_regrown a1
 have a2' := cell_regrown a2
 cases hf : fits s.h e
 ·
  have HE : Hid (addS s e = none) := Lib.hid (by unfold addS; rw [if_neg (by rw [hb]; simp),if_pos hf])
  rw [hf] at cF
  clear h hb hbW fz c0 c1 c2 c3 c4 c5 c6 c7 c8 a0 a1 a2 hS hf
  go_enter Tryz.func166,Tryz.ntmps166
  go_wp2_with fail
  clear hW
  refine wp_region_quiet_below (by kernel_rfl) (by kernel_rfl) ?_
  repeat (first | go_big_quiet_step (first | (go_at_call 58; exact cF _ _)) | quiet_step (first | (go_at_call 58; exact cF _ _)))
  refine wpQuiet_nil ?_
  intro _ hw'
  obtain ⟨⟨dq,osq⟩,hw''⟩ := hw'
  subst hw''
  have HB2 := Lib.hid (bchain HBW.out (below_regrown W dq osq))
  go_wp2_with fail
  go_ret
  exact StepE.no HE.out HI.out HB2.out
 ·
  have HE : Hid (addS s e = some (s.with (s.h.with (s.h.log ++ [e])))) := Lib.hid (by unfold addS; rw [if_neg (by rw [hb]; simp),if_neg (by rw [hf]; simp)])
  have HFt := Lib.hid hf
  have HH := Lib.hid h
  rw [hf] at cF
  clear h hb hbW fz c0 c1 c2 c3 c4 c5 c6 c7 c8 hS hf
  go_enter Tryz.func166,Tryz.ntmps166
  go_wp2_with fail
  clear hW
  refine wp_region_quiet_below (by kernel_rfl) (by kernel_rfl) ?_
  repeat (first | go_big_quiet_step (first | (go_at_call 58; exact cF _ _)) | quiet_step (first | (go_at_call 58; exact cF _ _)))
  refine wpQuiet_nil ?_
  intro _ hw'
  obtain ⟨⟨dq,osq⟩,hw''⟩ := hw'
  subst hw''
  have hB2 := below_regrown W dq osq
  have HB2 := Lib.hid (bchain HBW.out hB2)
  have hS2 := HS.out.below hB2
  have b0 := a0' dq osq
  have b1 := a1' dq osq
  have b2 := a2' dq osq
  have d6 := c6' dq osq
  clear a0' a1' a2' c0' c1' c2' c3' c4' c5' c6' c7' cF a0 a1 a2
  generalize grow (redrawn W dq) osq = V at *
  have HS2 := Lib.hid hS2
  have fz := hS2.blk.frozen (o + 6)
  have hltV := hS2.blk.lt
  clear hB2 hS2 hlt
  have HF : Hid (∀ (X y : World) (v' : Value),Below V.heap.size V X → Et.Own y 0 v' (s.h.log ++ [e]) → X.grownBy y (Value.slice vo vn vc).ownBlock → (v'.ownBlock = (Value.slice vo vn vc).ownBlock ∨ v'.ownBlock = some X.heap.size) → (y.cell? ⟨g,o + 6,none⟩ = some (.slice vo vn vc) ∧ y.frozen? ⟨g,o + 6,none⟩ = false ∧ g < y.heap.size ∧ ∃ xa xn xc,v' = .slice xa xn xc) ∧ StepE P w g o ty pre post s (addS s e) (.returned (.bool true)) (y.setCell ⟨g,o + 6,none⟩ v')) := Lib.hid fun X y v' bX ho gr hb => by
   have hX := HS2.out.below bX
   have hu : UpdQ (fun b => (sv ⟨vo,vn,vc⟩).ownBlock = some b) X y := UpdQ.grown gr
   have hne : ¬ (sv ⟨vo,vn,vc⟩).ownBlock = some g := fun z => (hX.pv g z).2 rfl
   have hblk : Blk y g o ty pre post (row s.h ⟨vo,vn,vc⟩) s.begun s.ready := ⟨hX.blk.1,(hu.block g hX.blk.lt hne).trans hX.blk.2⟩
   refine ⟨⟨hblk.cells.2.2.2.2.2.2.1,hblk.frozen _,hblk.lt,?_⟩,?_⟩
   ·
    obtain ⟨ao,cap,z,_⟩ := Et.own_ls ho (fun x hx => (List.mem_append.1 hx).elim (hX.short x) fun z => by rw [List.mem_singleton.1 z]; exact HSh.out)
    exact ⟨_,_,_,z⟩
   ·
    rw [HE.out]
    have hwX : Below w.heap.size w X := bchain HB2.out bX
    exact HH.out.app HFt.out HSh.out ho ((UpdQ.of hwX).trans hu) (hb.imp id fun z => ⟨_,z,hwX.size⟩)
  have lb1 : Hid (∀ q,Below V.heap.size V (V.alloc q).drew) := Lib.hid fun q => ((Below.refl _ _).alloc (Nat.le_refl _) _).drew
  have lb2 : Hid (∀ q,Below V.heap.size V (V.drew.alloc q)) := Lib.hid fun q => (Below.refl _ _).drew.alloc (Nat.le_refl _) _
  have hfew : s.h.log.length + 1 ≤ 100000 := by
   have := HS2.out.few
   omega
  go_wp2_with fail
  go_region_law (refine step_app _ (by rfl) (.tmp 24) (.tmp 26) (by rfl) (.slice vo vn vc) s.h.log (by rfl) ((HS2.out.below (by first | exact lb1.out _ | exact lb2.out _)).own) (some ⟨V.heap.size,0,none⟩) 1 1 [e] (by rfl) rfl (fun z => by cases z) (Et.seg_block (heap_alloc_new V _)) hfew ?_; intro v' y ho gr hb; (obtain ⟨⟨t0,t1,t2,xa,xn,xc,rfl⟩,hz⟩ := HF.out _ y v' (by first | exact lb1.out _ | exact lb2.out _) ho gr hb); have HZ := Lib.hid hz; clear hz ho gr hb)
  all_goals
   go_wp2
   go_ret
   exact HZ.out
theorem cut_in {h : H} {n : Int} (k : within n h.base (last h) = true) : h.base ≤ n ∧ n ≤ h.base + (h.log.length : Int) := by
 unfold within last at k
 simp only [Bool.and_eq_true,decide_eq_true_eq] at k
 exact k
theorem Seg.cut {P : Nat → Prop} {w y : World} {g o : Nat} {ty : TypeId} {pre post : List Value} {v : Sl} {s : Sg} (h : Seg P w g o ty pre post v s) (i : Nat) {v' : Value}
  (ho : Et.Own y 0 v' (s.h.log.take i)) (hu : UpdQ (fun b => (sv v).ownBlock = some b) w y) (hb : v'.ownBlock = (sv v).ownBlock) :
  StepE P w g o ty pre post s (some (s.with (s.h.with (s.h.log.take i)))) (.returned (.bool true)) (y.setCell ⟨g,o + 6,none⟩ v') := by
 obtain ⟨ao,cap,rfl,l,_⟩ := Et.own_ls ho (fun x hx => h.short x (List.mem_of_mem_take hx))
 have hg : ∀ b,(sv v).ownBlock = some b → b ≠ g := fun b z => (h.pv b z).2
 have hB : Blk y g o ty pre post (row s.h v) s.begun s.ready := ⟨h.blk.1,(hu.block g h.blk.lt fun z => hg g z rfl).trans h.blk.2⟩
 have hs := upd_set y g (o + 6) (.slice ao (s.h.log.take i).length cap)
 have hng : ∀ b,(Value.slice ao (s.h.log.take i).length cap).ownBlock = some b → nw P w b ∧ b ≠ g := fun b z => by
  rw [hb] at z
  exact ⟨.inl (h.pv b z).1,hg b z⟩
 refine ⟨rfl,⟨⟨ao,(s.h.log.take i).length,cap⟩,⟨hB.set 6 (by omega) _ rfl,hs.rows ho fun b z => (hng b z).2,.inl h.pg,hng,fun x hx => h.short x (List.mem_of_mem_take hx),?_,h.base,h.fit,h.snap⟩⟩,(hu.mono fun b z => (h.pv b z).1).trans (hs.mono fun b z => z ▸ h.pg)⟩
 have := h.few
 show (s.h.log.take i).length ≤ 200
 rw [List.length_take]
 omega
set_option maxHeartbeats 4000000 in
theorem sg_cut {P : Nat → Prop} {w : World} {g o : Nat} {ty : TypeId} {pre post : List Value} {s : Sg} (h : In P w g o ty pre post s) (n : Int) (hn : Fit n) :
  Calls Tryz.prog 169 #[.pointer (some ⟨g,o,none⟩),.int .i64 n] w (StepE P w g o ty pre post s (cutS s n)) := by
 have HI := Lib.hid h
 obtain ⟨v,h⟩ := h
 obtain ⟨⟨vo,vn,vc⟩,hv⟩ : ∃ x,x = v := ⟨_,rfl⟩
 subst hv
 have HS := Lib.hid h
 obtain ⟨c0,c1,c2,c3,c4,c5,c6,c7,c8⟩ := h.blk.cells
 unfold row at c0 c1 c2 c3 c4 c5 c6
 unfold sv at c6
 dsimp only at c0 c1 c2 c3 c4 c5 c6
 have hlt := h.blk.lt
 have hls := h.ls
 have hlen := hls.len
 have hcap := hls.reach
 have hfit := hls.fits
 dsimp only at hls hlen hcap hfit
 have hbase := h.base
 have hfew := h.few
 have cL := last_ag (row s.h ⟨vo,vn,vc⟩) s.h.log w hls (by exact ⟨(by show -1000000000000000000 ≤ s.h.base; omega),(by show s.h.base ≤ 1000000000000000000; omega)⟩) (by omega)
 rw [h_row] at cL
 have c3w := within_ag n s.h.base (last s.h) w
 unfold Hd.val row at cL
 dsimp only at cL
 unfold AnsW at cL c3w
 obtain ⟨la,hla⟩ : ∃ la,last s.h = la := ⟨_,rfl⟩
 rw [hla] at cL c3w
 cases hr : s.ready
 ·
  have HE : Hid (cutS s n = none) := Lib.hid (by unfold cutS; rw [if_pos hr])
  rw [hr] at c8
  clear h hr c0 c1 c2 c3 c4 c5 c6 c7 cL c3w hla hbase hlen hls
  have c8' := cell_regrown c8
  go_enter Tryz.func169,Tryz.ntmps169
  go_wp2_with fail
  clear c8
  refine wp_region_quiet_below (by kernel_rfl) (by kernel_rfl) ?_
  repeat (first | go_big_quiet_step (fail) | quiet_step (fail))
  refine wpQuiet_nil ?_
  intro _ hw'
  obtain ⟨⟨dq,osq⟩,hw''⟩ := hw'
  subst hw''
  have HB2 := Lib.hid (below_regrown w dq osq)
  go_wp2_with fail
  go_ret
  exact StepE.no HE.out HI.out HB2.out
 rw [hr] at c8
 have c0' := cell_regrown c0
 have c1' := cell_regrown c1
 have c2' := cell_regrown c2
 have c3' := cell_regrown c3
 have c4' := cell_regrown c4
 have c5' := cell_regrown c5
 have c6' := cell_regrown c6
 have c8' := cell_regrown c8
 cases hf : within n s.h.base la
 ·
  have HE : Hid (cutS s n = none) := Lib.hid (by unfold cutS; rw [if_neg (by rw [hr]; simp),if_pos (by rw [hla]; exact hf)])
  rw [hf] at c3w
  clear h hr c0 c1 c2 c3 c4 c5 c6 c7 c8 hla hbase hlen hls hf
  go_enter Tryz.func169,Tryz.ntmps169
  go_wp2_with fail
  refine wp_region_quiet_below (by kernel_rfl) (by kernel_rfl) ?_
  repeat (first | go_big_quiet_step (first | (go_at_call 106; with_reducible exact cL _ _) | (go_at_call 105; with_reducible exact c3w _ _)) | quiet_step (first | (go_at_call 106; with_reducible exact cL _ _) | (go_at_call 105; with_reducible exact c3w _ _)))
  refine wpQuiet_nil ?_
  intro _ hw'
  obtain ⟨⟨dq,osq⟩,hw''⟩ := hw'
  subst hw''
  have HB2 := Lib.hid (below_regrown w dq osq)
  go_wp2_with fail
  go_ret
  exact StepE.no HE.out HI.out HB2.out
 ·
  have HE : Hid (cutS s n = some (s.with (s.h.with (s.h.log.take (n - s.h.base).toNat)))) := Lib.hid (by unfold cutS; rw [if_neg (by rw [hr]; simp),if_neg (by rw [hla,hf]; simp)])
  obtain ⟨k1,k2⟩ := cut_in (by rw [hla]; exact hf)
  obtain ⟨i,hi⟩ : ∃ i,(n - s.h.base).toNat = i := ⟨_,rfl⟩
  rw [hi] at HE
  have hsub : n - s.h.base = (i : Int) := by omega
  have hin : i ≤ vn := by omega
  have hvn : vn ≤ 1000 := by omega
  rw [hf] at c3w
  obtain ⟨n1,n2⟩ := hn
  clear h hr c0 c1 c2 c3 c4 c5 c6 c7 c8 hla hlen hls hf hi k1 k2
  go_enter Tryz.func169,Tryz.ntmps169
  go_wp2_with fail
  refine wp_region_quiet_below (by kernel_rfl) (by kernel_rfl) ?_
  repeat (first | go_big_quiet_step (first | (go_at_call 106; with_reducible exact cL _ _) | (go_at_call 105; with_reducible exact c3w _ _)) | quiet_step (first | (go_at_call 106; with_reducible exact cL _ _) | (go_at_call 105; with_reducible exact c3w _ _)))
  refine wpQuiet_nil ?_
  intro _ hw'
  obtain ⟨⟨dq,osq⟩,hw''⟩ := hw'
  subst hw''
  have hB2 := below_regrown w dq osq
  have HB2 := Lib.hid hB2
  have hS2 := HS.out.below hB2
  have d2 := c2' dq osq
  have d6 := c6' dq osq
  clear c0' c1' c2' c3' c4' c5' c6' c8' cL c3w hlt
  generalize grow (redrawn w dq) osq = V at *
  have HS2 := Lib.hid hS2
  have C := Lib.hid (Et.delete_tail V vo vn vc i s.h.log hS2.own hin hvn)
  have hltV := hS2.blk.lt
  have HF : Hid (∀ (y : World) (v' : Value),Et.Own y 0 v' (s.h.log.take i) → v'.ownBlock = (Value.slice vo vn vc).ownBlock → UpdQ (fun b => (Value.slice vo vn vc).ownBlock = some b) V y → (y.cell? ⟨g,o + 6,none⟩ = some (.slice vo vn vc) ∧ y.frozen? ⟨g,o + 6,none⟩ = false ∧ g < y.heap.size ∧ ∃ xa xn xc,v' = .slice xa xn xc) ∧ StepE P w g o ty pre post s (cutS s n) (.returned (.bool true)) (y.setCell ⟨g,o + 6,none⟩ v')) := Lib.hid fun y v' ho hb hu => by
   have hX := HS2.out
   have hne : ¬ (sv ⟨vo,vn,vc⟩).ownBlock = some g := fun z => (hX.pv g z).2 rfl
   have hblk : Blk y g o ty pre post (row s.h ⟨vo,vn,vc⟩) s.begun s.ready := ⟨hX.blk.1,(hu.block g hX.blk.lt hne).trans hX.blk.2⟩
   refine ⟨⟨hblk.cells.2.2.2.2.2.2.1,hblk.frozen _,hblk.lt,?_⟩,?_⟩
   ·
    obtain ⟨ao,cap,z,_⟩ := Et.own_ls ho (fun x hx => hX.short x (List.mem_of_mem_take hx))
    exact ⟨_,_,_,z⟩
   ·
    rw [HE.out]
    exact HS.out.cut i ho ((UpdQ.of HB2.out).trans hu) hb
  clear hS2 hB2
  go_wp2_with (go_at_call 187; refine C.out.mono ?_; rintro e' y ⟨v',rfl,ho,hb,hu⟩; (obtain ⟨⟨t0,t1,t2,xa,xn,xc,rfl⟩,hz⟩ := HF.out y v' ho hb hu); have HZ := Lib.hid hz; clear hz ho hb hu C)
  go_ret
  exact HZ.out
end Go.Proofs.YtlmjeackfepllaaGreatDoor.Wl
namespace Go.Proofs.YtlmjeackfepllaaGreatDoor.Wl
open Go.RowKit
open Mem Pk
def Rs (w : World) (p : Nat) (bs : List UInt8) (s : St) (u : World) : Prop := (∃ ao n cap,Rd u p ao n cap bs s) ∧ w.heap.size ≤ p ∧ Below w.heap.size w u
section
variable {w u v : World} {p : Nat} {bs : List UInt8} {s : St}
theorem Rs.below (h : Rs w p bs s u) (k : Below u.heap.size u v) : Rs w p bs s v := by
 obtain ⟨⟨ao,n,cap,h⟩,a,b⟩ := h
 exact ⟨⟨ao,n,cap,h.below k⟩,a,bchain b k⟩
theorem Rs.lt (h : Rs w p bs s u) : p < u.heap.size := by
 obtain ⟨⟨ao,n,cap,h⟩,a,b⟩ := h
 exact cell_lt h.c0
theorem rs_num {t : Int} {s' : St} (h : Rs w p bs s u) (e : rNum bs s = (t,s')) : Calls Tryz.prog 143 #[.pointer (some ⟨p,0,none⟩)] u fun e u' => e = .returned (.int .i64 t) ∧ Rs w p bs s' u' ∧ Upd u p u' := by
 obtain ⟨⟨ao,n,cap,h⟩,a,b⟩ := h
 refine (rd_num p ao n cap bs s u h).mono ?_
 rintro x u' ⟨rfl,h1,h2⟩
 rw [e] at h1 ⊢
 exact ⟨rfl,⟨⟨ao,n,cap,h1⟩,a,h2.below w b a⟩,h2⟩
theorem rs_text {t : ByteArray} {s' : St} (h : Rs w p bs s u) (e : rText bs 1100 s = (t,s')) : Calls Tryz.prog 144 #[.pointer (some ⟨p,0,none⟩),.int .i64 1100] u fun e u' => e = .returned (.string t) ∧ Rs w p bs s' u' ∧ Upd u p u' := by
 obtain ⟨⟨ao,n,cap,h⟩,a,b⟩ := h
 refine (rd_text p ao n cap bs 1100 s u h).mono ?_
 rintro x u' ⟨rfl,h1,h2⟩
 rw [e] at h1 ⊢
 exact ⟨rfl,⟨⟨ao,n,cap,h1⟩,a,h2.below w b a⟩,h2⟩
theorem rs_end {t : Int} {s' : St} (h : Rs w p bs s u) (e : rEnd bs s = (t,s')) : Calls Tryz.prog 145 #[.pointer (some ⟨p,0,none⟩)] u fun e u' => e = .returned (.int .i64 t) ∧ Rs w p bs s' u' ∧ Upd u p u' := by
 obtain ⟨⟨ao,n,cap,h⟩,a,b⟩ := h
 refine (rd_end p ao n cap bs s u h).mono ?_
 rintro x u' ⟨rfl,h1,h2⟩
 rw [e] at h1 ⊢
 exact ⟨rfl,⟨⟨ao,n,cap,h1⟩,a,h2.below w b a⟩,h2⟩
theorem hdc_upd {b : Nat} {r : Hd.T} (h : Hd.C u b r) (k : Upd u p v) (hp : b ≠ p) : Hd.C v b r := by
 obtain ⟨h0,h1,h2,h3,h4,h5,h6⟩ := h
 have hl := cell_lt h0
 unfold Hd.C
 rw [k.cell _ _ hl hp,k.cell _ _ hl hp,k.cell _ _ hl hp,k.cell _ _ hl hp,k.cell _ _ hl hp,k.cell _ _ hl hp,k.cell _ _ hl hp]
 exact ⟨h0,h1,h2,h3,h4,h5,h6⟩
theorem etc_upd {b : Nat} {r : Et.T} (h : Et.C u b r) (k : Upd u p v) (hp : b ≠ p) : Et.C v b r := by
 obtain ⟨h0,h1,h2⟩ := h
 have hl := cell_lt h0
 unfold Et.C
 rw [k.cell _ _ hl hp,k.cell _ _ hl hp,k.cell _ _ hl hp]
 exact ⟨h0,h1,h2⟩
end
theorem StepE.since {P : Nat → Prop} {w u u' : World} {g o : Nat} {ty : TypeId} {pre post : List Value} {s : Sg} {x : Option Sg} {e : Ending} (k : Below w.heap.size w u) (h : StepE P u g o ty pre post s x e u') : StepE P w g o ty pre post s x e u' :=
 ⟨h.1,h.2.1.mono fun b z => z.imp id fun z => Nat.le_trans k.size z,(UpdQ.of k).trans h.2.2⟩
theorem rText_size (bs : List UInt8) (s : St) (hb : bs.length ≤ 140737488355328) : (rText bs 1100 s).1.size ≤ 140737488355328 := by
 unfold rText
 rw [← txt_len]
 show ((bs.take _).drop _).length ≤ _
 rw [List.length_drop,List.length_take]
 omega
theorem eql0_of {e : Int} (h : e = 0) : (e == 0) = true := beq_iff_eq.2 h
theorem rNumFit {bs : List UInt8} {s s' : St} {t : Int} (h : rNum bs s = (t,s')) : Fit t := by
 have := rNum_fit bs s
 rw [h] at this
 exact this
set_option maxHeartbeats 4000000 in
theorem sg_take {P : Nat → Prop} {w : World} {g o : Nat} {ty : TypeId} {pre post : List Value} {s : Sg} (h : In P w g o ty pre post s) (ao : Option Addr) (m cap : Nat) (bs : List UInt8) (hL : By.Ls w ao m cap bs) (hm : m ≤ 1000000000000) :
  Calls Tryz.prog 128 #[.pointer (some ⟨g,o,none⟩),.slice ao m cap] w (StepE P w g o ty pre post s (take s bs)) := by
 have HI := Lib.hid h
 have C0 := Lib.hid (pack_read bs ao m cap w hL hm)
 have hbl : bs.length ≤ 140737488355328 := by
  have := hL.len
  omega
 have HNo : Hid (take s bs = none → ∀ u,Below w.heap.size w u → StepE P w g o ty pre post s (take s bs) (.returned (.bool false)) u) := Lib.hid fun hx u k => StepE.no hx h k
 clear h hL
 obtain ⟨k,s1,hk⟩ : ∃ k s1,rNum bs s0 = (k,s1) := ⟨_,_,rfl⟩
 have hpa : parse bs = if k = 1 then parseB bs s1 else if k = 2 then parseE bs s1 else if k = 3 then fin bs s1 .rdy else if k = 4 then parseV bs s1 else if k = 5 then parseC bs s1 else none := by
  unfold parse
  rw [hk]
 have HK := Lib.hid hk
 have HPa := Lib.hid hpa
 clear hk hpa
 by_cases hk1 : k = 1
 ·
  obtain ⟨t,s1t,ht⟩ : ∃ x y,rNum bs s1 = (x,y) := ⟨_,_,rfl⟩
  have Jt := Lib.hid ht
  obtain ⟨v,s1tv,hv⟩ : ∃ x y,rNum bs s1t = (x,y) := ⟨_,_,rfl⟩
  have Jv := Lib.hid hv
  obtain ⟨b,s1tvb,hb⟩ : ∃ x y,rNum bs s1tv = (x,y) := ⟨_,_,rfl⟩
  have Jb := Lib.hid hb
  obtain ⟨c,s1tvbc,hc⟩ : ∃ x y,rNum bs s1tvb = (x,y) := ⟨_,_,rfl⟩
  have Jc := Lib.hid hc
  obtain ⟨d,s1tvbcd,hd⟩ : ∃ x y,rNum bs s1tvbc = (x,y) := ⟨_,_,rfl⟩
  have Jd := Lib.hid hd
  obtain ⟨er,sz,he⟩ : ∃ x y,rEnd bs s1tvbcd = (x,y) := ⟨_,_,rfl⟩
  have He := Lib.hid he
  have hps : parse bs = if er = 0 then some (.beg t v b c d) else none := by
   rw [HPa.out,if_pos hk1]
   unfold parseB fin
   simp only [ht,hv,hb,hc,hd,he]
  have ft := rNumFit ht
  have fv := rNumFit hv
  have fb := rNumFit hb
  have fc := rNumFit hc
  have fd := rNumFit hd
  clear he ht hv hb hc hd
  by_cases z : er = 0
  ·
   have HT : Hid (take s bs = beginS s ⟨t,v,b,c,d,.empty,[]⟩) := Lib.hid (by unfold take; rw [hps,if_pos z]; rfl)
   subst z
   clear hps HNo
   have q1 : (k == 1) = true := beq_iff_eq.2 hk1
   go_enter Tryz.func128,Tryz.ntmps128
   go_wp2_with fail
   refine C0.out.mono ?_
   rintro e u0 ⟨⟨p,bo,rfl,hp,hR⟩,b0⟩
   have HR0 : Hid (Rs w p bs s0 u0) := Lib.hid ⟨⟨bo,m,m,hR⟩,hp,b0⟩
   clear hp hR b0 C0
   go_wp2_with fail
   refine (rs_num HR0.out HK.out).mono ?_
   rintro e u1 ⟨rfl,h1,-⟩
   have HR1 := Lib.hid h1
   clear h1 HR0
   go_wp2_with fail
   refine (rs_num HR1.out Jt.out).mono ?_
   rintro e u2 ⟨rfl,h1,-⟩
   have HR2 := Lib.hid h1
   clear h1 HR1
   go_wp2_with fail
   refine (rs_num HR2.out Jv.out).mono ?_
   rintro e u3 ⟨rfl,h1,-⟩
   have HR3 := Lib.hid h1
   clear h1 HR2
   go_wp2_with fail
   refine (rs_num HR3.out Jb.out).mono ?_
   rintro e u4 ⟨rfl,h1,-⟩
   have HR4 := Lib.hid h1
   clear h1 HR3
   go_wp2_with fail
   refine (rs_num HR4.out Jc.out).mono ?_
   rintro e u5 ⟨rfl,h1,-⟩
   have HR5 := Lib.hid h1
   clear h1 HR4
   go_wp2_with fail
   refine (rs_num HR5.out Jd.out).mono ?_
   rintro e u6 ⟨rfl,h1,-⟩
   have HR6 := Lib.hid h1
   clear h1 HR5
   have HC : Hid (Hd.C (Hd.box u6 ⟨t,v,b,c,d,⟨#[]⟩,⟨none,0,0⟩⟩) u6.heap.size ⟨t,v,b,c,d,⟨#[]⟩,⟨none,0,0⟩⟩) := Lib.hid (Hd.c_box _ _)
   have HRW : Hid (∀ q,Rs w p bs s1tvbcd (u6.alloc q)) := Lib.hid fun q => HR6.out.below ((Below.refl _ _).alloc (Nat.le_refl _) q)
   have hpl := HR6.out.lt
   go_wp2_with fail
   refine (rs_end (HRW.out _) He.out).mono ?_
   rintro e u7 ⟨rfl,h1,hU⟩
   have HR7 := Lib.hid h1
   have hC := hdc_upd HC.out hU (by omega)
   clear h1 hU HRW HC HR6
   unfold Hd.C at hC
   obtain ⟨a0,a1,a2,a3,a4,a5,a6⟩ := hC
   go_wp2_with fail
   refine (sg_begin (HI.out.below HR7.out.2.2) ⟨t,v,b,c,d,⟨#[]⟩,⟨none,0,0⟩⟩ rfl rfl).mono ?_
   rintro e uz hz
   have HZ := Lib.hid (hz.since HR7.out.2.2)
   obtain ⟨rfl,-,-⟩ := hz
   go_wp2_with fail
   go_ret
   rw [HT.out]
   exact HZ.out
  ·
   have HN := Lib.hid (HNo.out (by unfold take; rw [hps,if_neg z]; rfl))
   have qe : (er == 0) = false := beq_eq_false_iff_ne.2 z
   clear hps HNo z
   have q1 : (k == 1) = true := beq_iff_eq.2 hk1
   go_enter Tryz.func128,Tryz.ntmps128
   go_wp2_with fail
   refine C0.out.mono ?_
   rintro e u0 ⟨⟨p,bo,rfl,hp,hR⟩,b0⟩
   have HR0 : Hid (Rs w p bs s0 u0) := Lib.hid ⟨⟨bo,m,m,hR⟩,hp,b0⟩
   clear hp hR b0 C0
   go_wp2_with fail
   refine (rs_num HR0.out HK.out).mono ?_
   rintro e u1 ⟨rfl,h1,-⟩
   have HR1 := Lib.hid h1
   clear h1 HR0
   go_wp2_with fail
   refine (rs_num HR1.out Jt.out).mono ?_
   rintro e u2 ⟨rfl,h1,-⟩
   have HR2 := Lib.hid h1
   clear h1 HR1
   go_wp2_with fail
   refine (rs_num HR2.out Jv.out).mono ?_
   rintro e u3 ⟨rfl,h1,-⟩
   have HR3 := Lib.hid h1
   clear h1 HR2
   go_wp2_with fail
   refine (rs_num HR3.out Jb.out).mono ?_
   rintro e u4 ⟨rfl,h1,-⟩
   have HR4 := Lib.hid h1
   clear h1 HR3
   go_wp2_with fail
   refine (rs_num HR4.out Jc.out).mono ?_
   rintro e u5 ⟨rfl,h1,-⟩
   have HR5 := Lib.hid h1
   clear h1 HR4
   go_wp2_with fail
   refine (rs_num HR5.out Jd.out).mono ?_
   rintro e u6 ⟨rfl,h1,-⟩
   have HR6 := Lib.hid h1
   clear h1 HR5
   have HC : Hid (Hd.C (Hd.box u6 ⟨t,v,b,c,d,⟨#[]⟩,⟨none,0,0⟩⟩) u6.heap.size ⟨t,v,b,c,d,⟨#[]⟩,⟨none,0,0⟩⟩) := Lib.hid (Hd.c_box _ _)
   have HRW : Hid (∀ q,Rs w p bs s1tvbcd (u6.alloc q)) := Lib.hid fun q => HR6.out.below ((Below.refl _ _).alloc (Nat.le_refl _) q)
   have hpl := HR6.out.lt
   go_wp2_with fail
   refine (rs_end (HRW.out _) He.out).mono ?_
   rintro e u7 ⟨rfl,h1,hU⟩
   have HR7 := Lib.hid h1
   have hC := hdc_upd HC.out hU (by omega)
   clear h1 hU HRW HC HR6
   unfold Hd.C at hC
   obtain ⟨a0,a1,a2,a3,a4,a5,a6⟩ := hC
   go_wp2_with fail
   go_ret
   exact HN.out _ HR7.out.2.2
 by_cases hk2 : k = 2
 ·
  obtain ⟨t,s1t,ht⟩ : ∃ x y,rNum bs s1 = (x,y) := ⟨_,_,rfl⟩
  have Jt := Lib.hid ht
  obtain ⟨v,s1tv,hv⟩ : ∃ x y,rNum bs s1t = (x,y) := ⟨_,_,rfl⟩
  have Jv := Lib.hid hv
  obtain ⟨x,s1tvx,hx⟩ : ∃ x y,rText bs 1100 s1tv = (x,y) := ⟨_,_,rfl⟩
  have Jx := Lib.hid hx
  have hxs : x.size ≤ 140737488355328 := by
   have := rText_size bs s1tv hbl
   rw [hx] at this
   exact this
  obtain ⟨er,sz,he⟩ : ∃ x y,rEnd bs s1tvx = (x,y) := ⟨_,_,rfl⟩
  have He := Lib.hid he
  have hps : parse bs = if er = 0 then some (.ent ⟨t,v,x⟩) else none := by
   rw [HPa.out,if_neg (by omega),if_pos hk2]
   unfold parseE fin
   simp only [ht,hv,hx,he]
  have ft := rNumFit ht
  have fv := rNumFit hv
  clear he ht hv hx
  by_cases z : er = 0
  ·
   have HT : Hid (take s bs = addS s ⟨t,v,x⟩) := Lib.hid (by unfold take; rw [hps,if_pos z]; rfl)
   subst z
   clear hps HNo
   have q1 : (k == 1) = false := beq_eq_false_iff_ne.2 (by omega)
   have q2 : (k == 2) = true := beq_iff_eq.2 hk2
   go_enter Tryz.func128,Tryz.ntmps128
   go_wp2_with fail
   refine C0.out.mono ?_
   rintro e u0 ⟨⟨p,bo,rfl,hp,hR⟩,b0⟩
   have HR0 : Hid (Rs w p bs s0 u0) := Lib.hid ⟨⟨bo,m,m,hR⟩,hp,b0⟩
   clear hp hR b0 C0
   go_wp2_with fail
   refine (rs_num HR0.out HK.out).mono ?_
   rintro e u1 ⟨rfl,h1,-⟩
   have HR1 := Lib.hid h1
   clear h1 HR0
   go_wp2_with fail
   refine (rs_num HR1.out Jt.out).mono ?_
   rintro e u2 ⟨rfl,h1,-⟩
   have HR2 := Lib.hid h1
   clear h1 HR1
   go_wp2_with fail
   refine (rs_num HR2.out Jv.out).mono ?_
   rintro e u3 ⟨rfl,h1,-⟩
   have HR3 := Lib.hid h1
   clear h1 HR2
   go_wp2_with fail
   refine (rs_text HR3.out Jx.out).mono ?_
   rintro e u4 ⟨rfl,h1,-⟩
   have HR4 := Lib.hid h1
   clear h1 HR3
   obtain ⟨W,hW,hbW,hC⟩ := Et.boxed1 u4 ⟨t,v,x⟩
   have HR4W := Lib.hid (HR4.out.below hbW)
   have hpl := HR4.out.lt
   have HC := Lib.hid hC
   dsimp only at hW
   clear hbW hC
   go_wp2_with fail
   refine (rs_end HR4W.out He.out).mono ?_
   rintro e u5 ⟨rfl,h1,hU⟩
   have HR5 := Lib.hid h1
   have hC := etc_upd HC.out hU (by omega)
   clear h1 hU hW HR4W HC HR4
   unfold Et.C at hC
   obtain ⟨a0,a1,a2⟩ := hC
   go_wp2_with fail
   refine (sg_add (HI.out.below HR5.out.2.2) ⟨t,v,x⟩ ⟨ft,fv,hxs⟩).mono ?_
   rintro e uz hz
   have HZ := Lib.hid (hz.since HR5.out.2.2)
   obtain ⟨rfl,-,-⟩ := hz
   go_wp2_with fail
   go_ret
   rw [HT.out]
   exact HZ.out
  ·
   have HN := Lib.hid (HNo.out (by unfold take; rw [hps,if_neg z]; rfl))
   have qe : (er == 0) = false := beq_eq_false_iff_ne.2 z
   clear hps HNo z
   have q1 : (k == 1) = false := beq_eq_false_iff_ne.2 (by omega)
   have q2 : (k == 2) = true := beq_iff_eq.2 hk2
   go_enter Tryz.func128,Tryz.ntmps128
   go_wp2_with fail
   refine C0.out.mono ?_
   rintro e u0 ⟨⟨p,bo,rfl,hp,hR⟩,b0⟩
   have HR0 : Hid (Rs w p bs s0 u0) := Lib.hid ⟨⟨bo,m,m,hR⟩,hp,b0⟩
   clear hp hR b0 C0
   go_wp2_with fail
   refine (rs_num HR0.out HK.out).mono ?_
   rintro e u1 ⟨rfl,h1,-⟩
   have HR1 := Lib.hid h1
   clear h1 HR0
   go_wp2_with fail
   refine (rs_num HR1.out Jt.out).mono ?_
   rintro e u2 ⟨rfl,h1,-⟩
   have HR2 := Lib.hid h1
   clear h1 HR1
   go_wp2_with fail
   refine (rs_num HR2.out Jv.out).mono ?_
   rintro e u3 ⟨rfl,h1,-⟩
   have HR3 := Lib.hid h1
   clear h1 HR2
   go_wp2_with fail
   refine (rs_text HR3.out Jx.out).mono ?_
   rintro e u4 ⟨rfl,h1,-⟩
   have HR4 := Lib.hid h1
   clear h1 HR3
   obtain ⟨W,hW,hbW,hC⟩ := Et.boxed1 u4 ⟨t,v,x⟩
   have HR4W := Lib.hid (HR4.out.below hbW)
   have hpl := HR4.out.lt
   have HC := Lib.hid hC
   dsimp only at hW
   clear hbW hC
   go_wp2_with fail
   refine (rs_end HR4W.out He.out).mono ?_
   rintro e u5 ⟨rfl,h1,hU⟩
   have HR5 := Lib.hid h1
   have hC := etc_upd HC.out hU (by omega)
   clear h1 hU hW HR4W HC HR4
   unfold Et.C at hC
   obtain ⟨a0,a1,a2⟩ := hC
   go_wp2_with fail
   go_ret
   exact HN.out _ HR5.out.2.2
 by_cases hk3 : k = 3
 ·
  obtain ⟨er,sz,he⟩ : ∃ x y,rEnd bs s1 = (x,y) := ⟨_,_,rfl⟩
  have He := Lib.hid he
  have hps : parse bs = if er = 0 then some (.rdy) else none := by
   rw [HPa.out,if_neg (by omega),if_neg (by omega),if_pos hk3]
   unfold fin
   simp only [he]
  clear he
  by_cases z : er = 0
  ·
   have HT : Hid (take s bs = closeS s) := Lib.hid (by unfold take; rw [hps,if_pos z]; rfl)
   subst z
   clear hps HNo
   have q1 : (k == 1) = false := beq_eq_false_iff_ne.2 (by omega)
   have q2 : (k == 2) = false := beq_eq_false_iff_ne.2 (by omega)
   have q3 : (k == 3) = true := beq_iff_eq.2 hk3
   go_enter Tryz.func128,Tryz.ntmps128
   go_wp2_with fail
   refine C0.out.mono ?_
   rintro e u0 ⟨⟨p,bo,rfl,hp,hR⟩,b0⟩
   have HR0 : Hid (Rs w p bs s0 u0) := Lib.hid ⟨⟨bo,m,m,hR⟩,hp,b0⟩
   clear hp hR b0 C0
   go_wp2_with fail
   refine (rs_num HR0.out HK.out).mono ?_
   rintro e u1 ⟨rfl,h1,-⟩
   have HR1 := Lib.hid h1
   clear h1 HR0
   go_wp2_with fail
   refine (rs_end HR1.out He.out).mono ?_
   rintro e u2 ⟨rfl,h1,-⟩
   have HR2 := Lib.hid h1
   clear h1 HR1
   go_wp2_with fail
   refine (sg_close (HI.out.below HR2.out.2.2)).mono ?_
   rintro e uz hz
   have HZ := Lib.hid (hz.since HR2.out.2.2)
   obtain ⟨rfl,-,-⟩ := hz
   go_wp2_with fail
   go_ret
   rw [HT.out]
   exact HZ.out
  ·
   have HN := Lib.hid (HNo.out (by unfold take; rw [hps,if_neg z]; rfl))
   have qe : (er == 0) = false := beq_eq_false_iff_ne.2 z
   clear hps HNo z
   have q1 : (k == 1) = false := beq_eq_false_iff_ne.2 (by omega)
   have q2 : (k == 2) = false := beq_eq_false_iff_ne.2 (by omega)
   have q3 : (k == 3) = true := beq_iff_eq.2 hk3
   go_enter Tryz.func128,Tryz.ntmps128
   go_wp2_with fail
   refine C0.out.mono ?_
   rintro e u0 ⟨⟨p,bo,rfl,hp,hR⟩,b0⟩
   have HR0 : Hid (Rs w p bs s0 u0) := Lib.hid ⟨⟨bo,m,m,hR⟩,hp,b0⟩
   clear hp hR b0 C0
   go_wp2_with fail
   refine (rs_num HR0.out HK.out).mono ?_
   rintro e u1 ⟨rfl,h1,-⟩
   have HR1 := Lib.hid h1
   clear h1 HR0
   go_wp2_with fail
   refine (rs_end HR1.out He.out).mono ?_
   rintro e u2 ⟨rfl,h1,-⟩
   have HR2 := Lib.hid h1
   clear h1 HR1
   go_wp2_with fail
   go_ret
   exact HN.out _ HR2.out.2.2
 by_cases hk4 : k = 4
 ·
  obtain ⟨t,s1t,ht⟩ : ∃ x y,rNum bs s1 = (x,y) := ⟨_,_,rfl⟩
  have Jt := Lib.hid ht
  obtain ⟨v,s1tv,hv⟩ : ∃ x y,rNum bs s1t = (x,y) := ⟨_,_,rfl⟩
  have Jv := Lib.hid hv
  obtain ⟨er,sz,he⟩ : ∃ x y,rEnd bs s1tv = (x,y) := ⟨_,_,rfl⟩
  have He := Lib.hid he
  have hps : parse bs = if er = 0 then some (.vot t v) else none := by
   rw [HPa.out,if_neg (by omega),if_neg (by omega),if_neg (by omega),if_pos hk4]
   unfold parseV fin
   simp only [ht,hv,he]
  have ft := rNumFit ht
  have fv := rNumFit hv
  clear he ht hv
  by_cases z : er = 0
  ·
   have HT : Hid (take s bs = voteS s t v) := Lib.hid (by unfold take; rw [hps,if_pos z]; rfl)
   subst z
   clear hps HNo
   have q1 : (k == 1) = false := beq_eq_false_iff_ne.2 (by omega)
   have q2 : (k == 2) = false := beq_eq_false_iff_ne.2 (by omega)
   have q3 : (k == 3) = false := beq_eq_false_iff_ne.2 (by omega)
   have q4 : (k == 4) = true := beq_iff_eq.2 hk4
   go_enter Tryz.func128,Tryz.ntmps128
   go_wp2_with fail
   refine C0.out.mono ?_
   rintro e u0 ⟨⟨p,bo,rfl,hp,hR⟩,b0⟩
   have HR0 : Hid (Rs w p bs s0 u0) := Lib.hid ⟨⟨bo,m,m,hR⟩,hp,b0⟩
   clear hp hR b0 C0
   go_wp2_with fail
   refine (rs_num HR0.out HK.out).mono ?_
   rintro e u1 ⟨rfl,h1,-⟩
   have HR1 := Lib.hid h1
   clear h1 HR0
   go_wp2_with fail
   refine (rs_num HR1.out Jt.out).mono ?_
   rintro e u2 ⟨rfl,h1,-⟩
   have HR2 := Lib.hid h1
   clear h1 HR1
   go_wp2_with fail
   refine (rs_num HR2.out Jv.out).mono ?_
   rintro e u3 ⟨rfl,h1,-⟩
   have HR3 := Lib.hid h1
   clear h1 HR2
   go_wp2_with fail
   refine (rs_end HR3.out He.out).mono ?_
   rintro e u4 ⟨rfl,h1,-⟩
   have HR4 := Lib.hid h1
   clear h1 HR3
   go_wp2_with fail
   refine (sg_vote (HI.out.below HR4.out.2.2) t v ft fv).mono ?_
   rintro e uz hz
   have HZ := Lib.hid (hz.since HR4.out.2.2)
   obtain ⟨rfl,-,-⟩ := hz
   go_wp2_with fail
   go_ret
   rw [HT.out]
   exact HZ.out
  ·
   have HN := Lib.hid (HNo.out (by unfold take; rw [hps,if_neg z]; rfl))
   have qe : (er == 0) = false := beq_eq_false_iff_ne.2 z
   clear hps HNo z
   have q1 : (k == 1) = false := beq_eq_false_iff_ne.2 (by omega)
   have q2 : (k == 2) = false := beq_eq_false_iff_ne.2 (by omega)
   have q3 : (k == 3) = false := beq_eq_false_iff_ne.2 (by omega)
   have q4 : (k == 4) = true := beq_iff_eq.2 hk4
   go_enter Tryz.func128,Tryz.ntmps128
   go_wp2_with fail
   refine C0.out.mono ?_
   rintro e u0 ⟨⟨p,bo,rfl,hp,hR⟩,b0⟩
   have HR0 : Hid (Rs w p bs s0 u0) := Lib.hid ⟨⟨bo,m,m,hR⟩,hp,b0⟩
   clear hp hR b0 C0
   go_wp2_with fail
   refine (rs_num HR0.out HK.out).mono ?_
   rintro e u1 ⟨rfl,h1,-⟩
   have HR1 := Lib.hid h1
   clear h1 HR0
   go_wp2_with fail
   refine (rs_num HR1.out Jt.out).mono ?_
   rintro e u2 ⟨rfl,h1,-⟩
   have HR2 := Lib.hid h1
   clear h1 HR1
   go_wp2_with fail
   refine (rs_num HR2.out Jv.out).mono ?_
   rintro e u3 ⟨rfl,h1,-⟩
   have HR3 := Lib.hid h1
   clear h1 HR2
   go_wp2_with fail
   refine (rs_end HR3.out He.out).mono ?_
   rintro e u4 ⟨rfl,h1,-⟩
   have HR4 := Lib.hid h1
   clear h1 HR3
   go_wp2_with fail
   go_ret
   exact HN.out _ HR4.out.2.2
 by_cases hk5 : k = 5
 ·
  obtain ⟨t,s1t,ht⟩ : ∃ x y,rNum bs s1 = (x,y) := ⟨_,_,rfl⟩
  have Jt := Lib.hid ht
  obtain ⟨er,sz,he⟩ : ∃ x y,rEnd bs s1t = (x,y) := ⟨_,_,rfl⟩
  have He := Lib.hid he
  have hps : parse bs = if er = 0 then some (.cut t) else none := by
   rw [HPa.out,if_neg (by omega),if_neg (by omega),if_neg (by omega),if_neg (by omega),if_pos hk5]
   unfold parseC fin
   simp only [ht,he]
  have ft := rNumFit ht
  clear he ht
  by_cases z : er = 0
  ·
   have HT : Hid (take s bs = cutS s t) := Lib.hid (by unfold take; rw [hps,if_pos z]; rfl)
   subst z
   clear hps HNo
   have q1 : (k == 1) = false := beq_eq_false_iff_ne.2 (by omega)
   have q2 : (k == 2) = false := beq_eq_false_iff_ne.2 (by omega)
   have q3 : (k == 3) = false := beq_eq_false_iff_ne.2 (by omega)
   have q4 : (k == 4) = false := beq_eq_false_iff_ne.2 (by omega)
   have q5 : (k == 5) = true := beq_iff_eq.2 hk5
   go_enter Tryz.func128,Tryz.ntmps128
   go_wp2_with fail
   refine C0.out.mono ?_
   rintro e u0 ⟨⟨p,bo,rfl,hp,hR⟩,b0⟩
   have HR0 : Hid (Rs w p bs s0 u0) := Lib.hid ⟨⟨bo,m,m,hR⟩,hp,b0⟩
   clear hp hR b0 C0
   go_wp2_with fail
   refine (rs_num HR0.out HK.out).mono ?_
   rintro e u1 ⟨rfl,h1,-⟩
   have HR1 := Lib.hid h1
   clear h1 HR0
   go_wp2_with fail
   refine (rs_num HR1.out Jt.out).mono ?_
   rintro e u2 ⟨rfl,h1,-⟩
   have HR2 := Lib.hid h1
   clear h1 HR1
   go_wp2_with fail
   refine (rs_end HR2.out He.out).mono ?_
   rintro e u3 ⟨rfl,h1,-⟩
   have HR3 := Lib.hid h1
   clear h1 HR2
   go_wp2_with fail
   refine (sg_cut (HI.out.below HR3.out.2.2) t ft).mono ?_
   rintro e uz hz
   have HZ := Lib.hid (hz.since HR3.out.2.2)
   obtain ⟨rfl,-,-⟩ := hz
   go_wp2_with fail
   go_ret
   rw [HT.out]
   exact HZ.out
  ·
   have HN := Lib.hid (HNo.out (by unfold take; rw [hps,if_neg z]; rfl))
   have qe : (er == 0) = false := beq_eq_false_iff_ne.2 z
   clear hps HNo z
   have q1 : (k == 1) = false := beq_eq_false_iff_ne.2 (by omega)
   have q2 : (k == 2) = false := beq_eq_false_iff_ne.2 (by omega)
   have q3 : (k == 3) = false := beq_eq_false_iff_ne.2 (by omega)
   have q4 : (k == 4) = false := beq_eq_false_iff_ne.2 (by omega)
   have q5 : (k == 5) = true := beq_iff_eq.2 hk5
   go_enter Tryz.func128,Tryz.ntmps128
   go_wp2_with fail
   refine C0.out.mono ?_
   rintro e u0 ⟨⟨p,bo,rfl,hp,hR⟩,b0⟩
   have HR0 : Hid (Rs w p bs s0 u0) := Lib.hid ⟨⟨bo,m,m,hR⟩,hp,b0⟩
   clear hp hR b0 C0
   go_wp2_with fail
   refine (rs_num HR0.out HK.out).mono ?_
   rintro e u1 ⟨rfl,h1,-⟩
   have HR1 := Lib.hid h1
   clear h1 HR0
   go_wp2_with fail
   refine (rs_num HR1.out Jt.out).mono ?_
   rintro e u2 ⟨rfl,h1,-⟩
   have HR2 := Lib.hid h1
   clear h1 HR1
   go_wp2_with fail
   refine (rs_end HR2.out He.out).mono ?_
   rintro e u3 ⟨rfl,h1,-⟩
   have HR3 := Lib.hid h1
   clear h1 HR2
   go_wp2_with fail
   go_ret
   exact HN.out _ HR3.out.2.2
 have q1 : (k == 1) = false := beq_eq_false_iff_ne.2 hk1
 have q2 : (k == 2) = false := beq_eq_false_iff_ne.2 hk2
 have q3 : (k == 3) = false := beq_eq_false_iff_ne.2 hk3
 have q4 : (k == 4) = false := beq_eq_false_iff_ne.2 hk4
 have q5 : (k == 5) = false := beq_eq_false_iff_ne.2 hk5
 have HN := Lib.hid (HNo.out (by unfold take; rw [HPa.out,if_neg hk1,if_neg hk2,if_neg hk3,if_neg hk4,if_neg hk5]; rfl))
 clear HNo
 go_enter Tryz.func128,Tryz.ntmps128
 go_wp2_with fail
 refine C0.out.mono ?_
 rintro e u0 ⟨⟨p,bo,rfl,hp,hR⟩,b0⟩
 have HR0 : Hid (Rs w p bs s0 u0) := Lib.hid ⟨⟨bo,m,m,hR⟩,hp,b0⟩
 clear hp hR b0 C0
 go_wp2_with fail
 refine (rs_num HR0.out HK.out).mono ?_
 rintro e u1 ⟨rfl,h1,-⟩
 have HR1 := Lib.hid h1
 clear h1 HR0
 go_wp2_with fail
 go_ret
 exact HN.out _ HR1.out.2.2
end Go.Proofs.YtlmjeackfepllaaGreatDoor.Wl
namespace Go.Proofs.YtlmjeackfepllaaGreatDoor
open Go.RowKit
open Mem
def Fm.scanF : Nat → List UInt8 → Nat → List (List UInt8) × Nat
 | 0,_,i => ([],i)
 | n + 1,b,i => if (Fm.nextF (b.drop i)).2.2 = 0 then ((Fm.nextF (b.drop i)).1 :: (Fm.scanF n b (i + (Fm.nextF (b.drop i)).2.1)).1,(Fm.scanF n b (i + (Fm.nextF (b.drop i)).2.1)).2) else ([],i)
def Fm.scan (b : List UInt8) : List (List UInt8) × Nat := Fm.scanF (b.length + 1) b 0
theorem Fm.next_ok {f : List UInt8} (h : (Fm.nextF f).2.2 = 0) : 9 ≤ (Fm.nextF f).2.1 ∧ (Fm.nextF f).2.1 ≤ f.length ∧ (Fm.nextF f).1.length ≤ f.length := by
 unfold Fm.nextF at h ⊢
 split at h
 · cases h
 rename_i h0
 rw [if_neg h0]
 split at h
 · cases h
 rename_i h1
 rw [if_neg h1]
 split at h
 · cases h
 rename_i h2
 rw [if_neg h2]
 split at h
 · cases h
 rename_i h3
 rw [if_neg h3]
 refine ⟨?_,?_,?_⟩
 ·
  show 9 ≤ Crc.le (f.take 4) + 8
  omega
 ·
  show Crc.le (f.take 4) + 8 ≤ f.length
  omega
 ·
  show ((f.drop 4).take _).length ≤ f.length
  rw [List.length_take,List.length_drop]
  omega
namespace Sq
theorem info : (Tryz.prog.info? 59).map (fun i => (i.zero,i.size,i.bytes)) = some (some (.slice none 0 0),1,24) := by kernel_rfl
def val (q : Nat × List UInt8) : Value := .slice (some ⟨q.1,0,none⟩) q.2.length q.2.length
def Own (w : World) (B : Nat) (v : Value) (xs : List (Nat × List UInt8)) : Prop := w.ownsRow B 59 1 v xs.length (xs.map val)
theorem own_nil (w : World) (B : Nat) : Own w B (.slice none 0 0) [] := ⟨rfl,.inl ⟨rfl,rfl⟩⟩
theorem cell_one (u : World) (v : Value) (t : TypeId) (j : Nat) (z : Value) (h : [v][j]? = some z) : (u.alloc (.cells #[v] t)).cell? ((⟨u.heap.size,0,none⟩ : Addr).add j) = some z := by
 rcases j with _ | j
 ·
  simp only [List.getElem?_cons_zero,Option.some.injEq] at h
  subst h
  simp [Addr.add,go_sem]
 · simp at h
theorem app {ops : Array Oper} {rest : List Oper} {o : Oper} {a : Act} {Q : Exit → Act → World → Prop} (u : World) (q : Nat × List UInt8) (hgd : o.guard = none) (s t : Operand)
  (ho : o.op = .call { callee := .builtin .append,args := #[s,t],argTypes := #[126,126] }) (B : Nat) (v : Value) (xs : List (Nat × List UInt8)) (hs : a.eval s = v) (hown : Own u B v xs)
  (hx : a.eval t = .slice (some ⟨u.heap.size,0,none⟩) 1 1) (hm : xs.length ≤ 1000000000) (hB : B ≤ u.heap.size)
  (h : ∀ v' w1,Own w1 B v' (xs ++ [q]) → (u.alloc (.cells #[val q] 59)).grownBy w1 v.ownBlock → (v'.ownBlock = v.ownBlock ∨ v'.ownBlock = some (u.heap.size + 1)) → wpList Tryz.prog ops Q rest (a.put o.dst v') w1) :
  wpList Tryz.prog ops Q (o :: rest) a (u.alloc (.cells #[val q] 59)) := by
 obtain ⟨i0,hi,hz0,hz1,hz2⟩ := info_parts info
 have hmx : maxLen = 9223372036854775807 := rfl
 refine wpList_append_own_at (w := u.alloc (.cells #[val q] 59)) hgd s t 126 ho B 59 i0 (.slice none 0 0) 1 24 Tryz.underlying126 hi hz0 hz1 hz2 rfl (by omega) v xs.length (xs.map val) hs (World.ownsRow.alloc hown _) ⟨u.heap.size,0,none⟩ 1 1 [val q] hx rfl (cell_one u _ _) (fun z hz => by rw [List.mem_singleton.1 hz]; rfl) (by omega) (by omega) (by simp; omega) ?_
 intro v' w' h1 h2 _ h3
 rw [show (u.alloc (.cells #[val q] 59)).heap.size = u.heap.size + 1 by simp] at h3
 refine h v' w' ?_ h2 h3
 unfold Own
 rw [List.length_append,List.map_append]
 exact h1
theorem own_ge {w : World} {B : Nat} {v : Value} {xs : List (Nat × List UInt8)} (h : Own w B v xs) : ∀ k,v.ownBlock = some k → B ≤ k ∧ k < w.heap.size := fun k hk => World.ownsRow.lt h k hk
end Sq
structure Fm.ScI (w : World) (bs : List UInt8) (i : Nat) (t : Value) (gs : List (Nat × List UInt8)) (wr : World) : Prop where
 own : Sq.Own wr w.heap.size t gs
 each : ∀ q ∈ gs,By.Block wr q.1 q.2 ∧ w.heap.size ≤ q.1 ∧ t.ownBlock ≠ some q.1
 bel : Below w.heap.size w wr
 le : i ≤ bs.length
 len : gs.length ≤ i
 told : ∃ n,bs.length < n + i ∧ Fm.scan bs = (gs.map Prod.snd ++ (Fm.scanF n bs i).1,(Fm.scanF n bs i).2)
theorem Fm.sc_start (w : World) (bs : List UInt8) : Fm.ScI w bs 0 (.slice none 0 0) [] w :=
 ⟨Sq.own_nil _ _,fun q hq => (by cases hq),Below.refl _ _,Nat.zero_le _,Nat.le_refl _,⟨bs.length + 1,by omega,rfl⟩⟩
def Fm.ScanE (w : World) (bs : List UInt8) (e : Ending) (w' : World) : Prop := ∃ (t : Value) (gs : List (Nat × List UInt8)),e = .returned (.tuple #[t,.int .i64 ((Fm.scan bs).2 : Nat)]) ∧ Sq.Own w' w.heap.size t gs ∧ gs.map Prod.snd = (Fm.scan bs).1 ∧ (∀ q ∈ gs,By.Block w' q.1 q.2 ∧ w.heap.size ≤ q.1 ∧ t.ownBlock ≠ some q.1) ∧ Below w.heap.size w w'
theorem Fm.ScI.done {w wr wx : World} {bs : List UInt8} {i : Nat} {t : Value} {gs : List (Nat × List UInt8)} (h : Fm.ScI w bs i t gs wr) (b : Below wr.heap.size wr wx) (he : (Fm.nextF (bs.drop i)).2.2 ≠ 0) : Fm.ScanE w bs (.returned (.tuple #[t,.int .i64 (i : Int)])) wx := by
 obtain ⟨n,hn,ht⟩ := h.told
 have e : Fm.scanF n bs i = ([],i) := by
  cases n with
  | zero => rfl
  | succ n => rw [Fm.scanF,if_neg he]
 rw [e] at ht
 simp only [List.append_nil] at ht
 refine ⟨t,gs,by rw [ht],?_,by rw [ht],fun q hq => ?_,bchain h.bel b⟩
 · exact rows_keep h.own fun g hg => b.block g (World.ownsRow.lt h.own g hg).2
 ·
  obtain ⟨h1,h2,h3⟩ := h.each q hq
  exact ⟨h1.below b,h2,h3⟩
theorem Fm.ScI.more {w wr wx wy : World} {bs : List UInt8} {i : Nat} {t t' : Value} {gs : List (Nat × List UInt8)} (h : Fm.ScI w bs i t gs wr) (b : Below wr.heap.size wr wx) (he : (Fm.nextF (bs.drop i)).2.2 = 0) {g : Nat} (hg : wr.heap.size ≤ g) (hb : By.Block wx g (Fm.nextF (bs.drop i)).1) (o : Sq.Own wy w.heap.size t' (gs ++ [(g,(Fm.nextF (bs.drop i)).1)])) (gr : (wx.alloc (.cells #[Sq.val (g,(Fm.nextF (bs.drop i)).1)] 59)).grownBy wy t.ownBlock) (hat : t'.ownBlock = t.ownBlock ∨ t'.ownBlock = some (wx.heap.size + 1)) : Fm.ScI w bs (i + (Fm.nextF (bs.drop i)).2.1) t' (gs ++ [(g,(Fm.nextF (bs.drop i)).1)]) wy := by
 obtain ⟨n1,n2,n3⟩ := Fm.next_ok he
 rw [List.length_drop] at n2
 have hile := h.le
 have hto : ∀ c,t.ownBlock = some c → c < wr.heap.size := fun c e => (World.ownsRow.lt h.own c e).2
 have hblk : ∀ c,c < wx.heap.size → t.ownBlock ≠ some c → wy.heap[c]? = wx.heap[c]? := fun c hc hne => by
  have h1 := gr.block c (by simp; omega) (fun z => hne z.symm)
  rw [h1]
  exact (((Below.refl wx.heap.size wx).alloc (Nat.le_refl _) _).block c hc)
 refine ⟨o,fun q hq => ?_,?_,by omega,?_,?_⟩
 ·
  rcases List.mem_append.1 hq with hq | hq
  ·
   obtain ⟨h1,h2,h3⟩ := h.each q hq
   have hl := Nat.lt_of_lt_of_le h1.lt b.size
   refine ⟨(hblk q.1 hl h3).trans (h1.below b),h2,fun z => ?_⟩
   rcases hat with z2 | z2
   · exact h3 (z2 ▸ z)
   ·
    rw [z2] at z
    have : wx.heap.size + 1 = q.1 := Option.some.inj z
    omega
  ·
   rw [List.mem_singleton.1 hq]
   have hne : t.ownBlock ≠ some g := fun z => by
    have := hto g z
    omega
   refine ⟨(hblk g hb.lt hne).trans hb,Nat.le_trans h.bel.size hg,fun z => ?_⟩
   rcases hat with z2 | z2
   · exact hne (z2 ▸ z)
   ·
    rw [z2] at z
    have : wx.heap.size + 1 = g := Option.some.inj z
    have := hb.lt
    omega
 ·
  have h1 := bchain h.bel b
  exact (h1.alloc h1.size _).grown gr (by have := h1.size; simp; omega) fun c e => (World.ownsRow.lt h.own c e).1
 ·
  rw [List.length_append,List.length_singleton]
  have := h.len
  omega
 ·
  obtain ⟨n,hn,ht⟩ := h.told
  cases n with
  | zero => omega
  | succ n =>
   refine ⟨n,by omega,?_⟩
   rw [ht,Fm.scanF,if_pos he,List.map_append,List.append_assoc]
   rfl
end Go.Proofs.YtlmjeackfepllaaGreatDoor
namespace Go.Proofs.YtlmjeackfepllaaGreatDoor.Wl
open Go.RowKit
open Mem Pk
structure Vl (P : Nat → Prop) (w : World) (v : Sl) (s : Sg) : Prop where
 own : Et.Own w 0 (sv v) s.h.log
 pv : ∀ b,(sv v).ownBlock = some b → P b
 short : ∀ e ∈ s.h.log,Et.Short e
 few : s.h.log.length ≤ 200
 base : 0 ≤ s.h.base ∧ s.h.base ≤ 1099511627776
 fit : Fit s.h.term ∧ Fit s.h.vote ∧ Fit s.h.bt ∧ Fit s.h.mem
 snap : s.h.snap = .empty
theorem Seg.vl {P : Nat → Prop} {w : World} {g o : Nat} {ty : TypeId} {pre post : List Value} {v : Sl} {s : Sg} (h : Seg P w g o ty pre post v s) : Vl P w v s := ⟨h.own,fun b e => (h.pv b e).1,h.short,h.few,h.base,h.fit,h.snap⟩
theorem Vl.mono {P Q : Nat → Prop} {w : World} {v : Sl} {s : Sg} (h : Vl P w v s) (k : ∀ b,P b → Q b) : Vl Q w v s := ⟨h.own,fun b e => k b (h.pv b e),h.short,h.few,h.base,h.fit,h.snap⟩
theorem Vl.keep {P Q : Nat → Prop} {w u : World} {v : Sl} {s : Sg} (h : Vl P w v s) (k : UpdQ Q w u) (hQ : ∀ b,P b → ¬ Q b) : Vl P u v s := ⟨k.rows h.own fun b e => hQ b (h.pv b e),h.pv,h.short,h.few,h.base,h.fit,h.snap⟩
theorem Vl.below {P : Nat → Prop} {w u : World} {v : Sl} {s : Sg} (h : Vl P w v s) (k : Below w.heap.size w u) : Vl P u v s := h.keep (UpdQ.of (Q := fun _ => False) k) fun _ _ z => z
theorem Vl.seg {P : Nat → Prop} {w : World} {g o : Nat} {ty : TypeId} {pre post : List Value} {v : Sl} {s : Sg} (h : Vl P w v s) (hb : Blk w g o ty pre post (row s.h v) s.begun s.ready) (hg : P g) (hne : ∀ b,(sv v).ownBlock = some b → b ≠ g) : Seg P w g o ty pre post v s :=
 ⟨hb,h.own,hg,fun b e => ⟨h.pv b e,hne b e⟩,h.short,h.few,h.base,h.fit,h.snap⟩
def val (v : Sl) (s : Sg) : Value := .agg #[.int .i64 s.h.term,.int .i64 s.h.vote,.int .i64 s.h.base,.int .i64 s.h.bt,.int .i64 s.h.mem,.string s.h.snap,.slice v.ao v.n v.cap,.bool s.begun,.bool s.ready]
theorem vl_empty (P : Nat → Prop) (w : World) : Vl P w ⟨none,0,0⟩ empty := ⟨Et.own_nil _ _,fun b e => (by cases e),fun e z => (by cases z),Nat.zero_le _,⟨Int.le_refl _,by decide⟩,⟨⟨by decide,by decide⟩,⟨by decide,by decide⟩,⟨by decide,by decide⟩,⟨by decide,by decide⟩⟩,rfl⟩
set_option maxHeartbeats 1000000 in
theorem wl_empty (w : World) : Calls Tryz.prog 40 #[] w fun e w' => e = .returned (.agg #[.int .i64 0,.int .i64 (-1),.int .i64 0,.int .i64 0,.int .i64 0,.string ⟨#[]⟩,.slice none 0 0,.bool false,.bool false]) ∧ Below w.heap.size w w' := by
 go_enter Tryz.func40,Tryz.ntmps40
 go_wp2
 exact bodyPost_ret (v := .agg #[.int .i64 0,.int .i64 (-1),.int .i64 0,.int .i64 0,.int .i64 0,.string ⟨#[]⟩,.slice none 0 0,.bool false,.bool false]) (by simp [results,Tryz.results40,go_sem]) rfl ⟨rfl,(Below.refl _ _).alloc (Nat.le_refl _) _⟩
def ReadE (w : World) (bs : List UInt8) (e : Ending) (w' : World) : Prop := ∃ v,e = .returned (.tuple #[val v (read bs).1,.int .i64 ((read bs).2 : Int)]) ∧ Vl (fun b => w.heap.size ≤ b) w' v (read bs).1 ∧ Below w.heap.size w w'
def RdI (bs : List UInt8) (k : Nat) (s : Sg) : Prop := ∃ f,bs.length < k + f ∧ k ≤ bs.length ∧ (readF f s (bs.drop k)).1 = (read bs).1 ∧ k + (readF f s (bs.drop k)).2 = (read bs).2
theorem rdI_start (bs : List UInt8) : RdI bs 0 empty := ⟨bs.length + 1,by omega,Nat.zero_le _,rfl,Nat.zero_add _⟩
theorem RdI.stop {bs : List UInt8} {k : Nat} {s : Sg} (h : RdI bs k s) (he : (Fm.nextF (bs.drop k)).2.2 ≠ 0 ∨ take s (Fm.nextF (bs.drop k)).1 = none) : (read bs).1 = s ∧ (read bs).2 = k := by
 obtain ⟨f,h1,h2,h3,h4⟩ := h
 obtain ⟨q,rfl⟩ : ∃ q,f = q + 1 := ⟨f - 1,by omega⟩
 have e : readF (q + 1) s (bs.drop k) = (s,0) := by
  rw [readF]
  by_cases z : (Fm.nextF (bs.drop k)).2.2 ≠ 0
  · rw [if_pos z]
  · rw [if_neg z,he.resolve_left z]
 rw [e] at h3 h4
 exact ⟨h3.symm,h4.symm⟩
theorem RdI.more {bs : List UInt8} {k : Nat} {s s' : Sg} (h : RdI bs k s) (he : (Fm.nextF (bs.drop k)).2.2 = 0) (ht : take s (Fm.nextF (bs.drop k)).1 = some s') : RdI bs (k + (Fm.nextF (bs.drop k)).2.1) s' := by
 obtain ⟨f,h1,h2,h3,h4⟩ := h
 obtain ⟨q,rfl⟩ : ∃ q,f = q + 1 := ⟨f - 1,by omega⟩
 obtain ⟨a,b,_⟩ := Fm.next_ok he
 rw [List.length_drop] at b
 rw [readF,if_neg (by rw [he]; exact fun z => z rfl),ht] at h3 h4
 simp only [List.drop_drop] at h3 h4
 exact ⟨q,by omega,by omega,h3,by omega⟩
theorem blk_new (w : World) (ty : TypeId) (r : Hd.T) (b c : Bool) : Blk (w.alloc (.cells (cel r b c).toArray ty)) w.heap.size 0 ty [] [] r b c := ⟨rfl,by
 rw [List.nil_append,List.append_nil]
 exact heap_alloc_new w _⟩
theorem Blk.obj {w : World} {g : Nat} {ty : TypeId} {r : Hd.T} {b c : Bool} (h : Blk w g 0 ty [] [] r b c) : w.heap[g]? = some (.cells (cel r b c).toArray ty (0,0)) := by
 have := h.2
 rw [List.nil_append,List.append_nil] at this
 exact this
theorem sgInfo : (Tryz.prog.info? 79).map (·.size) = some 9 := by kernel_rfl
theorem results_sg {fn : Func} {p q : Tmp} (hf : fn.results = #[.cell p 79,.tmp q]) {tmps : Array Value} {w : World} {g : Nat} {r : Hd.T} {b c : Bool} (hp : tmps.getD p undef = .pointer (some ⟨g,0,none⟩))
  (hk : Blk w g 0 79 [] [] r b c) : (results fn tmps).run Tryz.prog w = .ok (.tuple #[.agg (cel r b c).toArray,tmps.getD q undef]) w := by
 have hp' : tmps[p]?.getD undef = .pointer (some ⟨g,0,none⟩) := by simpa using hp
 have e1 := run_loadVar_row (P := Tryz.prog) w g 79 79 (cel r b c).toArray (0,0) _ hk.obj Tryz.underlying79 rfl (by rw [sgInfo]; rfl)
 simp [results,hf,hp',asAddr,e1]
def lay9 (w : World) (g o : Nat) (r : Hd.T) (b c : Bool) : World := ((lay w g o r).setCell ⟨g,o + 7,none⟩ (.bool b)).setCell ⟨g,o + 8,none⟩ (.bool c)
theorem Blk.lay9 {w : World} {g o : Nat} {ty : TypeId} {pre post : List Value} {r : Hd.T} {b c : Bool} (h : Blk w g o ty pre post r b c) (x : Hd.T) (b' c' : Bool) : Blk (lay9 w g o x b' c') g o ty pre post x b' c' :=
 ((h.lay x).set (b' := b') (c' := c) (r' := x) 7 (by omega) (.bool b') rfl).set (r' := x) 8 (by omega) (.bool c') rfl
theorem lay9_upd (w : World) (g o : Nat) (x : Hd.T) (b c : Bool) : UpdQ (fun q => q = g) w (lay9 w g o x b c) := ((lay_upd w g o x).trans (upd_set _ g _ _)).trans (upd_set _ g _ _)
theorem nextF_big {f : List UInt8} (h : (Fm.nextF f).2.2 = 0) : (Fm.nextF f).1.length ≤ 1000000000 ∧ 0 < (Fm.nextF f).1.length := by
 unfold Fm.nextF at h ⊢
 by_cases h1 : f.length < 4
 ·
  rw [if_pos h1] at h
  cases h
 rw [if_neg h1] at h ⊢
 by_cases h2 : Crc.le (f.take 4) = 0 ∨ 131072 < Crc.le (f.take 4)
 ·
  rw [if_pos h2] at h
  cases h
 rw [if_neg h2] at h ⊢
 by_cases h3 : f.length < Crc.le (f.take 4) + 8
 ·
  rw [if_pos h3] at h
  cases h
 rw [if_neg h3] at h ⊢
 by_cases h4 : Crc.on 0 (f.take (4 + Crc.le (f.take 4))) ≠ Crc.le ((f.drop (4 + Crc.le (f.take 4))).take 4)
 ·
  rw [if_pos h4] at h
  cases h
 rw [if_neg h4]
 show ((f.drop 4).take (Crc.le (f.take 4))).length ≤ _ ∧ 0 < ((f.drop 4).take (Crc.le (f.take 4))).length
 rw [List.length_take,List.length_drop]
 omega
set_option maxHeartbeats 4000000 in
theorem wl_read (ao : Option Addr) (n cap : Nat) (bs : List UInt8) (w : World) (hB : By.Ls w ao n cap bs) (hn : n ≤ 140737488355328) :
  Calls Tryz.prog 88 #[.slice ao n cap] w (ReadE w bs) := by
 have HB := Lib.hid hB
 have hbl : bs.length ≤ 140737488355328 := by
  have := hB.len
  omega
 have HN := Lib.hid hB.len
 obtain ⟨W1,hW1⟩ : ∃ W1,w.alloc (.cells #[.int .i64 0,.int .i64 0,.int .i64 0,.int .i64 0,.int .i64 0,.string ⟨#[]⟩,.slice none 0 0,.bool false,.bool false] 79) = W1 := ⟨_,rfl⟩
 have hb1 : Below w.heap.size w W1 := hW1 ▸ (Below.refl _ _).alloc (Nat.le_refl _) _
 have hs1 : W1.heap.size = w.heap.size + 1 := by rw [← hW1]; simp
 have hk1 : Blk W1 w.heap.size 0 79 [] [] ⟨0,0,0,0,0,⟨#[]⟩,⟨none,0,0⟩⟩ false false := hW1 ▸ blk_new w 79 ⟨0,0,0,0,0,⟨#[]⟩,⟨none,0,0⟩⟩ false false
 have HB1 := Lib.hid hb1
 have HK1 := Lib.hid hk1
 clear hB hb1 hk1
 go_enter Tryz.func88,Tryz.ntmps88
 go_wp2_with (go_at_call 40; refine (wl_empty _).mono ?_; rintro e w2 ⟨rfl,b2⟩; have HB2 := Lib.hid b2; clear b2)
 have HS0 : Hid (In (fun b => W1.heap.size ≤ b) (w2.alloc (.cells (cel (row empty.h ⟨none,0,0⟩) false false).toArray 79)) w2.heap.size 0 79 [] [] empty) := Lib.hid ⟨_,(vl_empty _ _).seg (blk_new w2 _ _ _ _) HB2.out.size fun b e => (by cases e)⟩
 have HB3 : Hid (∀ q,Below W1.heap.size W1 (w2.alloc q)) := Lib.hid fun q => bchain HB2.out ((Below.refl _ _).alloc (Nat.le_refl _) q)
 obtain ⟨g,hg⟩ : ∃ g,w2.heap.size = g := ⟨_,rfl⟩
 have HG : Hid (W1.heap.size ≤ g) := Lib.hid (hg ▸ HB2.out.size)
 rw [hg] at HS0 ⊢
 have HM1 := Lib.hid hs1
 clear hs1 hW1 hg
 go_loopw [5] (fun i wr => ∃ (k : Nat) (s : Sg),i = .int .i64 k ∧ Hid (RdI bs k s) ∧ Hid (In (fun b => W1.heap.size ≤ b) wr g 0 79 [] [] s) ∧ Hid (Below W1.heap.size W1 wr)) (fun i _ => n - (intOf i).toNat)
 case atStart => exact ⟨0,empty,rfl,Lib.hid (rdI_start bs),HS0,Lib.hid (HB3.out _)⟩
 case round =>
  clear HS0 HB3 HB2
  rename World => wz
  obtain ⟨k,s,rfl,HI,HS,HW⟩ := hrel
  have hkn : k ≤ n := by
   obtain ⟨f,_,h2,_⟩ := HI.out
   have := HN.out
   omega
  have CN := Lib.hid (fm_next ao n cap bs (k : Int) wz (HB.out.below (bchain HB1.out HW.out)) (by omega) ⟨by omega,by omega⟩)
  have HFin : Hid (∀ u,Below W1.heap.size W1 u → In (fun b => W1.heap.size ≤ b) u g 0 79 [] [] s → ((Fm.nextF (bs.drop k)).2.2 ≠ 0 ∨ take s (Fm.nextF (bs.drop k)).1 = none) → ∃ v,(Seg (fun b => W1.heap.size ≤ b) u g 0 79 [] [] v s ∧ Blk u w.heap.size 0 79 [] [] ⟨0,0,0,0,0,⟨#[]⟩,⟨none,0,0⟩⟩ false false) ∧ Blk (lay9 u w.heap.size 0 (row s.h v) s.begun s.ready) w.heap.size 0 79 [] [] (row s.h v) s.begun s.ready ∧ ReadE w bs (.returned (.tuple #[val v s,.int .i64 (k : Int)])) (lay9 u w.heap.size 0 (row s.h v) s.begun s.ready)) := Lib.hid fun u hu ⟨v,hv⟩ he => by
   obtain ⟨e1,e2⟩ := HI.out.stop he
   have hkb := HK1.out.below hu
   have hup := lay9_upd u w.heap.size 0 (row s.h v) s.begun s.ready
   have hm := HM1.out
   refine ⟨v,⟨hv,hkb⟩,hkb.lay9 _ _ _,v,by rw [e1,e2],?_,hup.below w (bchain HB1.out hu) fun b z => by omega⟩
   rw [e1]
   exact (hv.vl.keep hup fun b z1 z2 => by omega).mono fun b z => by omega
  go_wp2_with fail
  refine CN.out.mono ?_
  rintro e w3 ⟨b3,⟨z,_⟩ | ⟨k',hk',hk2,⟨he,rfl⟩ | ⟨he,gp,hgp,hblk,rfl⟩⟩⟩
  ·
   have := HN.out
   omega
  ·
   obtain rfl : k = k' := by omega
   obtain ⟨er,her⟩ : ∃ er,(Fm.nextF (bs.drop k)).2.2 = er := ⟨_,rfl⟩
   obtain ⟨v,⟨hv,hkb⟩,hl9,hfin⟩ := HFin.out w3 (bchain HW.out b3) (HS.out.below b3) (.inl he)
   rw [her] at he ⊢
   have qe : ((er : Int) != 0) = true := bne_iff_ne.2 (by omega)
   have HL9 := Lib.hid hl9
   have HFn := Lib.hid hfin
   obtain ⟨c0,c1,c2,c3,c4,c5,c6,c7,c8⟩ := hv.blk.cells
   obtain ⟨d0,d1,d2,d3,d4,d5,d6,d7,d8⟩ := hkb.cells
   have hlt := hkb.lt
   have fz := hkb.frozen
   unfold sv at c6 d6
   unfold row at c0 c1 c2 c3 c4 c5 c6
   dsimp only at c0 c1 c2 c3 c4 c5 c6 d0 d1 d2 d3 d4 d5 d6
   clear hfin hl9 hv hkb CN HS HFin her
   go_wp2_with fail
   exact bodyPost_ret (results_sg Tryz.results88 rfl HL9.out) rfl HFn.out
  ·
   obtain rfl : k = k' := by omega
   have HE := Lib.hid he
   have hbig := nextF_big he
   have HT : Hid (∀ s',take s (Fm.nextF (bs.drop k)).1 = some s' → RdI bs (k + (Fm.nextF (bs.drop k)).2.1) s' ∧ k < k + (Fm.nextF (bs.drop k)).2.1 ∧ k + (Fm.nextF (bs.drop k)).2.1 ≤ n) := Lib.hid fun s' ht => by
    have h1 := HI.out.more he ht
    obtain ⟨a,b,_⟩ := Fm.next_ok he
    obtain ⟨f,_,h2,_⟩ := h1
    have := HN.out
    exact ⟨HI.out.more he ht,by omega,by omega⟩
   have HW3 := Lib.hid (bchain HW.out b3)
   have HS3 := Lib.hid (HS.out.below b3)
   obtain ⟨pl,hpl⟩ : ∃ pl,(Fm.nextF (bs.drop k)).1 = pl := ⟨_,rfl⟩
   obtain ⟨ad,had⟩ : ∃ ad,(Fm.nextF (bs.drop k)).2.1 = ad := ⟨_,rfl⟩
   rw [hpl] at hblk hbig HFin HT ⊢
   rw [had] at HT ⊢
   obtain ⟨pn,hpn⟩ : ∃ pn,pl.length = pn := ⟨_,rfl⟩
   have hls := hblk.ls (by omega)
   rw [hpn] at hls hbig ⊢
   have CT := Lib.hid (sg_take HS3.out (some ⟨gp,0,none⟩) pn pn pl hls (by omega))
   clear hblk hls hpl had hpn HS CN HE he
   cases ht : take s pl
   ·
    rw [ht] at CT
    have HFin2 := Lib.hid fun u hu hi => HFin.out u hu hi (.inr ht)
    clear HFin ht HT
    go_wp2_with fail
    refine CT.out.mono ?_
    rintro e w4 ⟨rfl,h4,u4⟩
    obtain ⟨v,⟨hv,hkb⟩,hl9,hfin⟩ := HFin2.out w4 (u4.below W1 HW3.out fun b z => z) (h4.mono fun b z => z.elim id fun z => Nat.le_trans HW3.out.size z)
    have HL9 := Lib.hid hl9
    have HFn := Lib.hid hfin
    obtain ⟨c0,c1,c2,c3,c4,c5,c6,c7,c8⟩ := hv.blk.cells
    obtain ⟨d0,d1,d2,d3,d4,d5,d6,d7,d8⟩ := hkb.cells
    have hlt := hkb.lt
    have fz := hkb.frozen
    unfold sv at c6 d6
    unfold row at c0 c1 c2 c3 c4 c5 c6
    dsimp only at c0 c1 c2 c3 c4 c5 c6 d0 d1 d2 d3 d4 d5 d6
    clear hfin hl9 hv hkb CT HFin2 h4 u4 HS3
    go_wp2_with fail
    exact bodyPost_ret (results_sg Tryz.results88 rfl HL9.out) rfl HFn.out
   ·
    rename_i s'
    rw [ht] at CT
    have HT2 := Lib.hid (HT.out s' ht)
    clear HFin ht HT
    have hkad : k + ad ≤ n := HT2.out.2.2
    have hkad2 : k < k + ad := HT2.out.2.1
    go_wp2_with fail
    refine CT.out.mono ?_
    rintro e w4 ⟨rfl,h4,u4⟩
    have HB4 := Lib.hid (u4.below W1 HW3.out fun b z => z)
    have HS4 : Hid (In (fun b => W1.heap.size ≤ b) w4 g 0 79 [] [] s') := Lib.hid (h4.mono fun b z => z.elim id fun z => Nat.le_trans HW3.out.size z)
    clear CT h4 u4 HS3
    go_wp2_with fail
    go_roundw
    case rel => exact ⟨k + ad,s',rfl,Lib.hid HT2.out.1,HS4,HB4⟩
    case measure => simp [intOf]; omega
end Go.Proofs.YtlmjeackfepllaaGreatDoor.Wl
namespace Go.Proofs.YtlmjeackfepllaaGreatDoor.Wl
open Pk
theorem frame_size (p : List UInt8) : (Fm.frame p).length = p.length + 8 := by
 unfold Fm.frame
 rw [List.length_append,List.length_append,Fm.four_len,Fm.four_len]
 omega
def PayOk (p : List UInt8) : Prop := 1 ≤ p.length ∧ p.length ≤ 131072
theorem take4 {p tl : List UInt8} : (Fm.frame p ++ tl).take 4 = Crc.four p.length := by
 unfold Fm.frame
 rw [List.append_assoc,List.append_assoc]
 exact List.take_left' rfl
theorem le4 {p : List UInt8} (h : PayOk p) : Crc.le (Crc.four p.length) = p.length := Crc.le_four _ (by have := h.2; omega)
theorem takeN {p tl : List UInt8} : (Fm.frame p ++ tl).take (4 + p.length) = Crc.four p.length ++ p := by
 unfold Fm.frame
 rw [List.append_assoc]
 exact List.take_left' (by rw [List.length_append,Fm.four_len])
theorem dropN {p tl : List UInt8} : (Fm.frame p ++ tl).drop (4 + p.length) = Crc.four (Crc.on 0 (Crc.four p.length ++ p)) ++ tl := by
 unfold Fm.frame
 rw [List.append_assoc]
 exact List.drop_left' (by rw [List.length_append,Fm.four_len])
theorem drop4 {p tl : List UInt8} : ((Fm.frame p ++ tl).drop 4).take p.length = p := by
 unfold Fm.frame
 rw [List.append_assoc,List.append_assoc,List.drop_left' (Fm.four_len _)]
 exact List.take_left' rfl
theorem on0_lt (l : List UInt8) : Crc.on 0 l < 4294967296 := Crc.on_lt 0 l (by omega)
theorem next_frame {p : List UInt8} (h : PayOk p) (tl : List UInt8) : Fm.nextF (Fm.frame p ++ tl) = (p,p.length + 8,0) := by
 have hl : (Fm.frame p ++ tl).length = p.length + 8 + tl.length := by rw [List.length_append,frame_size]
 obtain ⟨h1,h2⟩ := h
 unfold Fm.nextF
 rw [take4,le4 ⟨h1,h2⟩,takeN,dropN,if_neg (by omega),if_neg (by omega),if_neg (by omega),List.take_left' (Fm.four_len _),Crc.le_four _ (on0_lt _),if_neg (fun z => z rfl),drop4]
theorem next_back {f : List UInt8} (h : (Fm.nextF f).2.2 = 0) : PayOk (Fm.nextF f).1 ∧ f = Fm.frame (Fm.nextF f).1 ++ f.drop (Fm.nextF f).2.1 ∧ (Fm.nextF f).2.1 = (Fm.frame (Fm.nextF f).1).length := by
 unfold Fm.nextF at h ⊢
 by_cases h1 : f.length < 4
 ·
  rw [if_pos h1] at h
  cases h
 rw [if_neg h1] at h ⊢
 by_cases h2 : Crc.le (f.take 4) = 0 ∨ 131072 < Crc.le (f.take 4)
 ·
  rw [if_pos h2] at h
  cases h
 rw [if_neg h2] at h ⊢
 by_cases h3 : f.length < Crc.le (f.take 4) + 8
 ·
  rw [if_pos h3] at h
  cases h
 rw [if_neg h3] at h ⊢
 by_cases h4 : Crc.on 0 (f.take (4 + Crc.le (f.take 4))) ≠ Crc.le ((f.drop (4 + Crc.le (f.take 4))).take 4)
 ·
  rw [if_pos h4] at h
  cases h
 rw [if_neg h4]
 obtain ⟨n,hn⟩ : ∃ n,Crc.le (f.take 4) = n := ⟨_,rfl⟩
 rw [hn] at h2 h3 h4 ⊢
 dsimp only
 have hp : ((f.drop 4).take n).length = n := by rw [List.length_take,List.length_drop]; omega
 have e4 : Crc.four n = f.take 4 := by rw [← hn]; exact Crc.four_le _ (by rw [List.length_take]; omega)
 have e5 : f.take (4 + n) = f.take 4 ++ (f.drop 4).take n := List.take_add
 have h5 : Crc.on 0 (f.take (4 + n)) = Crc.le ((f.drop (4 + n)).take 4) := Decidable.not_not.1 h4
 have e6 : Crc.four (Crc.on 0 (f.take (4 + n))) = (f.drop (4 + n)).take 4 := by
  rw [h5]
  exact Crc.four_le _ (by rw [List.length_take,List.length_drop]; omega)
 refine ⟨⟨by omega,by omega⟩,?_,by rw [frame_size,hp]⟩
 unfold Fm.frame
 rw [hp,e4,← e5,e6]
 conv => lhs; rw [← List.take_append_drop (4 + n) f,← List.take_append_drop 4 (f.drop (4 + n))]
 rw [List.drop_drop,List.append_assoc,show 4 + n + 4 = n + 8 by omega]
theorem readF_fuel : ∀ (k j : Nat) (s : Sg) (bs : List UInt8),bs.length < k → bs.length < j → readF k s bs = readF j s bs
 | 0,_,_,_,h,_ => absurd h (Nat.not_lt_zero _)
 | _ + 1,0,_,_,_,h => absurd h (Nat.not_lt_zero _)
 | k + 1,j + 1,s,bs,h,g => by
  rw [readF,readF]
  by_cases z : (Fm.nextF bs).2.2 ≠ 0
  · rw [if_pos z,if_pos z]
  ·
   rw [if_neg z,if_neg z]
   cases take s (Fm.nextF bs).1 with
   | none => rfl
   | some s' =>
    obtain ⟨a,b,_⟩ := Fm.next_ok (Decidable.not_not.1 z)
    have hl : (bs.drop (Fm.nextF bs).2.1).length < bs.length := by rw [List.length_drop]; omega
    dsimp only
    rw [readF_fuel k j s' (bs.drop (Fm.nextF bs).2.1) (by omega) (by omega)]
def rd (s : Sg) (bs : List UInt8) : Sg × Nat := readF (bs.length + 1) s bs
theorem read_rd (bs : List UInt8) : read bs = rd empty bs := rfl
theorem rd_stop {s : Sg} {bs : List UInt8} (h : (Fm.nextF bs).2.2 ≠ 0) : rd s bs = (s,0) := by
 unfold rd
 rw [readF,if_pos h]
theorem rd_no {s : Sg} {bs : List UInt8} (h : (Fm.nextF bs).2.2 = 0) (k : take s (Fm.nextF bs).1 = none) : rd s bs = (s,0) := by
 unfold rd
 rw [readF,if_neg (fun z => z h),k]
theorem rd_go {s s' : Sg} {bs : List UInt8} (h : (Fm.nextF bs).2.2 = 0) (k : take s (Fm.nextF bs).1 = some s') :
  rd s bs = ((rd s' (bs.drop (Fm.nextF bs).2.1)).1,(Fm.nextF bs).2.1 + (rd s' (bs.drop (Fm.nextF bs).2.1)).2) := by
 obtain ⟨a,b,_⟩ := Fm.next_ok h
 unfold rd
 rw [readF,if_neg (fun z => z h),k]
 dsimp only
 rw [readF_fuel bs.length ((bs.drop (Fm.nextF bs).2.1).length + 1) s' _ (by rw [List.length_drop]; omega) (by omega)]
def takes (s : Sg) : List (List UInt8) → Option Sg
 | [] => some s
 | p :: l => (take s p).bind fun s' => takes s' l
theorem takes_cons {s s' : Sg} {p : List UInt8} {l : List (List UInt8)} (h : takes s (p :: l) = some s') : ∃ m,take s p = some m ∧ takes m l = some s' := by
 unfold takes at h
 cases e : take s p with
 | none => rw [e] at h; cases h
 | some m => rw [e] at h; exact ⟨m,rfl,h⟩
theorem takes_app : ∀ (l m : List (List UInt8)) (s : Sg),takes s (l ++ m) = (takes s l).bind fun s' => takes s' m
 | [],m,s => rfl
 | p :: l,m,s => by
  rw [List.cons_append,takes,takes]
  cases take s p with
  | none => rfl
  | some s' => exact takes_app l m s'
theorem frames_cat : ∀ l m : List (List UInt8),frames (l ++ m) = frames l ++ frames m
 | [],m => rfl
 | p :: l,m => by rw [List.cons_append,frames,frames,frames_cat l m,List.append_assoc]
theorem rd_frame {s s' : Sg} {p : List UInt8} (hp : PayOk p) (h : take s p = some s') (tl : List UInt8) : rd s (Fm.frame p ++ tl) = ((rd s' tl).1,(Fm.frame p).length + (rd s' tl).2) := by
 have hn := next_frame hp tl
 rw [rd_go (s' := s') (by rw [hn]) (by rw [hn]; exact h),hn]
 dsimp only
 rw [← frame_size,List.drop_left' rfl]
theorem rd_frames : ∀ (ps : List (List UInt8)) (s s' : Sg),(∀ p ∈ ps,PayOk p) → takes s ps = some s' → ∀ tl,rd s (frames ps ++ tl) = ((rd s' tl).1,(frames ps).length + (rd s' tl).2)
 | [],s,s',_,h,tl => by
  cases h
  show rd s tl = ((rd s tl).1,0 + (rd s tl).2)
  rw [Nat.zero_add]
 | p :: l,s,s',hp,h,tl => by
  obtain ⟨m,h1,h2⟩ := takes_cons h
  rw [frames,List.append_assoc,rd_frame (hp p (List.mem_cons_self ..)) h1,rd_frames l m s' (fun q hq => hp q (List.mem_cons_of_mem _ hq)) h2 tl,List.length_append]
  dsimp only
  rw [Nat.add_assoc]
theorem rd_nil (s : Sg) : rd s [] = (s,0) := rd_stop (by decide)
theorem rd_all {ps : List (List UInt8)} {s s' : Sg} (hp : ∀ p ∈ ps,PayOk p) (h : takes s ps = some s') : rd s (frames ps) = (s',(frames ps).length) := by
 have := rd_frames ps s s' hp h []
 rw [List.append_nil,rd_nil] at this
 exact this
theorem rd_split (n : Nat) : ∀ (bs : List UInt8) (s : Sg),bs.length ≤ n → ∃ ps,(∀ p ∈ ps,PayOk p) ∧ takes s ps = some (rd s bs).1 ∧ (frames ps).length = (rd s bs).2 ∧ bs = frames ps ++ bs.drop (rd s bs).2 ∧ rd (rd s bs).1 (bs.drop (rd s bs).2) = ((rd s bs).1,0) := by
 induction n with
 | zero =>
  intro bs s h
  have : bs = [] := List.length_eq_zero_iff.1 (by omega)
  subst this
  rw [rd_nil]
  exact ⟨[],fun p hp => (by cases hp),rfl,rfl,rfl,rd_nil s⟩
 | succ n ih =>
  intro bs s h
  by_cases z : (Fm.nextF bs).2.2 = 0
  ·
   cases k : take s (Fm.nextF bs).1 with
   | none =>
    have e := rd_no z k
    rw [e]
    exact ⟨[],fun p hp => (by cases hp),rfl,rfl,rfl,e⟩
   | some s' =>
    obtain ⟨a,b,_⟩ := Fm.next_ok z
    obtain ⟨h1,h2,h3⟩ := next_back z
    obtain ⟨ps,i1,i2,i3,i4,i5⟩ := ih (bs.drop (Fm.nextF bs).2.1) s' (by rw [List.length_drop]; omega)
    have e := rd_go z k
    rw [e]
    dsimp only
    rw [← List.drop_drop]
    refine ⟨(Fm.nextF bs).1 :: ps,?_,?_,?_,?_,i5⟩
    ·
     intro p hp
     rcases List.mem_cons.1 hp with rfl | hp
     · exact h1
     · exact i1 p hp
    ·
     rw [takes,k]
     exact i2
    · rw [frames,List.length_append,i3,h3]
    ·
     rw [frames,List.append_assoc,← i4]
     exact h2
  ·
   have e := rd_stop (s := s) z
   rw [e]
   exact ⟨[],fun p hp => (by cases hp),rfl,rfl,rfl,e⟩
theorem xor255 (x : UInt8) : (x ^^^ 255).toNat + x.toNat = 255 := by
 have h : ∀ n : Fin 256,((n.val ^^^ 255) % 256) + n.val = 255 := by decide +kernel
 have := h ⟨x.toNat,x.toNat_lt⟩
 have e : (x ^^^ 255).toNat = x.toNat ^^^ 255 := rfl
 have hb : x.toNat ^^^ 255 < 256 := Nat.xor_lt_two_pow (n := 8) x.toNat_lt (by decide)
 rw [Nat.mod_eq_of_lt hb] at this
 rw [e]
 exact this
theorem flip_len (b : List UInt8) : (Dk.flip b).length = b.length := by unfold Dk.flip; rw [List.length_set]
theorem flip_app (a b : List UInt8) (h : b ≠ []) : Dk.flip (a ++ b) = a ++ Dk.flip b := by
 unfold Dk.flip
 have hb : 0 < b.length := List.length_pos_iff.2 h
 rw [List.length_append,show a.length + b.length - 1 = a.length + (b.length - 1) by omega,List.set_append_right _ _ (by omega),Nat.add_sub_cancel_left,List.getLast?_append,List.getLast?_eq_some_getLast h]
 rfl
theorem flip_take (b : List UInt8) (k : Nat) (h : k < b.length) : (Dk.flip b).take k = b.take k := by
 unfold Dk.flip
 rw [List.take_set_of_le (by omega)]
def torn (k : Nat) (fl : Bool) (F : List UInt8) : List UInt8 := if fl = true then Dk.flip (F.take k) else F.take k
theorem torn_len (k : Nat) (fl : Bool) (F : List UInt8) : (torn k fl F).length = min k F.length := by
 unfold torn
 split
 · rw [flip_len,List.length_take]
 · rw [List.length_take]
theorem next_torn {p : List UInt8} (hp : PayOk p) (k : Nat) (fl : Bool) (tl : List UInt8) (h : k < p.length + 8 ∨ k = p.length + 8 ∧ fl = true) : (Fm.nextF (torn k fl (Fm.frame p ++ tl))).2.2 ≠ 0 := by
 obtain ⟨p1,p2⟩ := hp
 have hF : (Fm.frame p ++ tl).length = p.length + 8 + tl.length := by rw [List.length_append,frame_size]
 have hl : (torn k fl (Fm.frame p ++ tl)).length = k := by
  rw [torn_len,hF]
  omega
 obtain ⟨f,hf⟩ : ∃ f,torn k fl (Fm.frame p ++ tl) = f := ⟨_,rfl⟩
 rw [hf] at hl ⊢
 by_cases h4 : k < 4
 ·
  unfold Fm.nextF
  rw [if_pos (by omega)]
  exact fun z => by cases z
 have t4 : ∀ j,j < k → f.take j = (Fm.frame p ++ tl).take j := fun j hj => by
  rw [← hf]
  unfold torn
  split
  · rw [flip_take _ _ (by rw [List.length_take,hF]; omega),List.take_take,Nat.min_eq_left (by omega)]
  · rw [List.take_take,Nat.min_eq_left (by omega)]
 by_cases h5 : 4 < k
 ·
  have e4 : f.take 4 = Crc.four p.length := (t4 4 h5).trans take4
  unfold Fm.nextF
  rw [e4,le4 ⟨p1,p2⟩,if_neg (by omega),if_neg (by omega)]
  by_cases h6 : k < p.length + 8
  ·
   rw [if_pos (by omega)]
   exact fun z => by cases z
  ·
   obtain ⟨hk,hfl⟩ := h.resolve_left h6
   rw [if_neg (by omega),if_pos ?_]
   · exact fun z => by cases z
   ·
    rw [(t4 (4 + p.length) (by omega)).trans takeN]
    obtain ⟨c,hc⟩ : ∃ c,Crc.on 0 (Crc.four p.length ++ p) = c := ⟨_,rfl⟩
    have hcl := on0_lt (Crc.four p.length ++ p)
    rw [hc] at hcl ⊢
    have e5 : f = (Crc.four p.length ++ p) ++ Dk.flip (Crc.four c) := by
     rw [← hf]
     unfold torn
     rw [if_pos hfl,List.take_left' (by rw [frame_size,hk])]
     unfold Fm.frame
     rw [flip_app _ _ (by unfold Crc.four; simp),hc]
    have e6 : f.drop (4 + p.length) = Dk.flip (Crc.four c) := by
     rw [e5]
     exact List.drop_left' (by rw [List.length_append,Fm.four_len])
    rw [e6,List.take_of_length_le (by rw [flip_len,Fm.four_len]; omega)]
    have e7 := Crc.le_four c hcl
    unfold Crc.four at e7 ⊢
    unfold Dk.flip
    simp only [List.length_cons,List.length_nil,List.getLast?_cons_cons,List.getLast?_singleton,Option.getD_some,Nat.reduceAdd,Nat.reduceSub,List.set_cons_succ,List.set_cons_zero]
    have hx := xor255 (UInt8.ofNat (c / 16777216))
    simp only [Crc.le] at e7 ⊢
    omega
 ·
  obtain rfl : k = 4 := by omega
  unfold Fm.nextF
  rw [List.take_of_length_le (by omega),if_neg (by omega)]
  by_cases hfl : fl = true
  ·
   have e5 : f = Dk.flip (Crc.four p.length) := by
    rw [← hf]
    unfold torn
    rw [if_pos hfl,take4]
   have hbig : 131072 < Crc.le f := by
    rw [e5]
    have hx := xor255 (UInt8.ofNat (p.length / 16777216))
    have hz : (UInt8.ofNat (p.length / 16777216)).toNat = 0 := by
     rw [UInt8.toNat_ofNat',Nat.div_eq_of_lt (by omega)]
    unfold Crc.four Dk.flip
    simp only [List.length_cons,List.length_nil,List.getLast?_cons_cons,List.getLast?_singleton,Option.getD_some,Nat.reduceAdd,Nat.reduceSub,List.set_cons_succ,List.set_cons_zero]
    simp only [Crc.le]
    omega
   rw [if_pos (.inr hbig)]
   exact fun z => by cases z
  ·
   have e5 : f = Crc.four p.length := by
    rw [← hf]
    unfold torn
    rw [if_neg hfl,take4]
   rw [e5,le4 ⟨p1,p2⟩,if_neg (by omega),if_pos (by rw [Fm.four_len]; omega)]
   exact fun z => by cases z
theorem torn_nil (k : Nat) (fl : Bool) : torn k fl [] = [] := by
 unfold torn Dk.flip
 simp
theorem torn_app (a b : List UInt8) (k : Nat) (fl : Bool) (h : a.length < k ∨ a.length = k ∧ fl = false) (hk : k ≤ a.length + b.length) : torn k fl (a ++ b) = a ++ torn (k - a.length) fl b := by
 unfold torn
 rcases h with h | ⟨h,hf⟩
 ·
  rw [List.take_append,List.take_of_length_le (by omega)]
  split
  ·
   refine flip_app _ _ fun e => ?_
   have := congrArg List.length e
   rw [List.length_take,List.length_nil] at this
   omega
  · rfl
 · rw [if_neg (by rw [hf]; simp),if_neg (by rw [hf]; simp),List.take_append,List.take_of_length_le (by omega)]
theorem rd_torn : ∀ (ps : List (List UInt8)) (s s' : Sg),(∀ p ∈ ps,PayOk p) → takes s ps = some s' → ∀ (k : Nat) (fl : Bool),k ≤ (frames ps).length → ∃ j sj,j ≤ ps.length ∧ takes s (ps.take j) = some sj ∧ rd s (torn k fl (frames ps)) = (sj,(frames (ps.take j)).length)
 | [],s,s',_,h,k,fl,_ => by
  refine ⟨0,s,Nat.le_refl _,rfl,?_⟩
  show rd s (torn k fl []) = (s,0)
  rw [torn_nil,rd_nil]
 | p :: l,s,s',hp,h,k,fl,hk => by
  have hp1 := hp p (List.mem_cons_self ..)
  obtain ⟨m,h1,h2⟩ := takes_cons h
  rw [frames,List.length_append,frame_size] at hk
  by_cases hc : k < p.length + 8 ∨ k = p.length + 8 ∧ fl = true
  · exact ⟨0,s,Nat.zero_le _,rfl,rd_stop (next_torn hp1 k fl _ hc)⟩
  ·
   have hc' : (Fm.frame p).length < k ∨ (Fm.frame p).length = k ∧ fl = false := by
    rw [frame_size]
    rcases Nat.lt_trichotomy k (p.length + 8) with z | z | z
    · exact absurd (.inl z) hc
    ·
     refine .inr ⟨z.symm,?_⟩
     cases fl
     · rfl
     · exact absurd (.inr ⟨z,rfl⟩) hc
    · exact .inl z
   obtain ⟨j,sj,i1,i2,i3⟩ := rd_torn l m s' (fun q hq => hp q (List.mem_cons_of_mem _ hq)) h2 (k - (Fm.frame p).length) fl (by rw [frame_size]; omega)
   refine ⟨j + 1,sj,by rw [List.length_cons]; omega,?_,?_⟩
   ·
    rw [List.take_succ_cons,takes,h1]
    exact i2
   · rw [frames,torn_app _ _ _ _ hc' (by rw [frame_size]; omega),rd_frame hp1 h1,i3,List.take_succ_cons,frames,List.length_append]
end Go.Proofs.YtlmjeackfepllaaGreatDoor.Wl
