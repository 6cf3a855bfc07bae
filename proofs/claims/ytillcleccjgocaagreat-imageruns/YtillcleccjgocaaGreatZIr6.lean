import Derived.Deep.RegionHeld3
import Derived.Laws.CopyOwn
import Derived.Laws.MakeOwn
import Derived.Lib.QuietBelow
import Derived.Deep.RegionLaw
import Derived.Deep.DeepCutAuto
import Derived.Deep.CutBlock
import Derived.Test.YtillcleccjgocaaGreatShelf
import Derived.Lib.Overlaps
import Derived.Lib.JoinLaws
import Derived.Lib.SliceRun
import Derived.Test.YtillcleccjgocaaGreatZIr1
import Derived.Test.YtillcleccjgocaaGreatZIr2
import Derived.Test.YtillcleccjgocaaGreatZIr3
import Derived.Test.YtillcleccjgocaaGreatZIr4
import Derived.Test.YtillcleccjgocaaGreatZIr5
set_option maxRecDepth 100000
set_option linter.unusedVariables false
namespace Go.Proofs.YtillcleccjgocaaGreat
open Go.RowKit
open Mem
open Go.Sort (grow heap_grow_old putRowK flatK HoldsK)
def cmpB (x y : Ba.T) : Int := Lib.compareBytes x.acct.data.toList y.acct.data.toList
theorem ltOf_cmp (x y : Ba.T) : ltOf cmpB x y = Po.lt x.acct y.acct := by
 unfold ltOf cmpB Po.lt
 rw [Po.cmp_lt,tl,tl]
 rfl
theorem swo_cmp : Go.Sort.SWO (ltOf cmpB) where
 irrefl x := by rw [ltOf_cmp]; exact Po.lt_irrefl _
 trans x y z h1 h2 := by
  rw [ltOf_cmp] at *
  exact Po.lt_trans h1 h2
 ntrans x y z h1 h2 := by
  rw [ltOf_cmp] at *
  rcases Po.lt_tri y.acct z.acct with h | h | h
  ·
   rw [h2] at h
   cases h
  ·
   rw [← h]
   exact h1
  ·
   rw [Bool.eq_false_iff]
   intro k
   have := Po.lt_trans k h
   rw [h1] at this
   cases this
set_option maxHeartbeats 2000000 in
theorem post_order (x y : Ba.T) (w : World) : Calls Tryz.prog 161 #[.agg #[.string x.acct,.int .i64 x.amt],.agg #[.string y.acct,.int .i64 y.amt]] w fun e w' => e = .returned (.int .i64 (cmpB x y)) ∧ ∃ q os',w' = grow (w.drewN q) os' := by
 have hcon : ∀ W',Calls Tryz.prog 178 #[.string x.acct,.string y.acct] W' fun e w' => e = .returned (.int .i64 (cmpB x y)) ∧ w' = W' := fun W' => Tryz.strings_Compare x.acct y.acct W'
 generalize cmpB x y = r at hcon ⊢
 go_enter Tryz.func161,Tryz.ntmps161
 go_wp2_with (go_at_call 178; refine (hcon _).mono ?_; rintro e w' ⟨rfl,rfl⟩)
 go_ret
 exact ⟨rfl,0,_,by rw [Go.Sort.alloc_eq_grow,Go.Sort.alloc_eq_grow,Go.Sort.grow_grow]; rfl⟩
theorem cmp_lays (blk off size : Nat) (w : World) : CmpLays Tryz.prog 161 #[] Ba.rv 2 cmpB blk off size w :=
 fun _ _ _ _ x y => post_order x y _
theorem agg_bal (w : World) : (isAgg 70).run Tryz.prog w = .ok true w := Tryz.isAgg70 w
theorem own_holds {w : World} {B g n cap : Nat} {M : List Ba.T} (h : Ba.Own w B (.slice (some ⟨g,0,none⟩) n cap) M) : HoldsK Ba.rv 2 w g 0 M.toArray := by
 intro t ht
 rw [Go.Sort.size_flatK] at ht
 rw [Go.Sort.get_flatK _ _ _ _ ht]
 have ht' : t < M.length * 2 := by simpa using ht
 obtain ⟨k,p,rfl,hp⟩ : ∃ k p,t = k * 2 + p ∧ p < 2 := ⟨t / 2,t % 2,by omega,by omega⟩
 have hk : k < M.length := by omega
 obtain ⟨⟨c0,c1⟩,hf,_⟩ := Ba.own_at h k hk
 have e : M.toArray[k]! = M[k] := by
  rw [getElem!_pos M.toArray k (by simpa using hk)]
  simp
 rw [show (k * 2 + p) / 2 = k by omega,show (k * 2 + p) % 2 = p by omega,e,Nat.zero_add]
 refine ⟨?_,hf _⟩
 rcases (show p = 0 ∨ p = 1 by omega) with rfl | rfl
 · exact c0
 · exact c1
theorem own_sorted {w : World} {B g n cap m : Nat} {M : List Ba.T} (d : Array Ba.T) (os : Array Obj) (h : Ba.Own w B (.slice (some ⟨g,0,none⟩) n cap) M) (hs : d.size = M.length) : Ba.Own (sortWorldK Ba.rv 2 w g 0 m d os) B (.slice (some ⟨g,0,none⟩) n cap) d.toList := by
 rcases h.2 with ⟨h',_⟩ | ⟨g',cap',cur,h',hb,hg,hnc,hcm,hcs,htake⟩
 · cases h'
 ·
  simp only [Value.slice.injEq,Option.some.injEq,Addr.mk.injEq,and_true] at h'
  obtain ⟨e1,e2,e3⟩ := h'
  subst e1 e3
  have hlt : g < w.heap.size := by
   obtain ⟨hl,_⟩ := Array.getElem?_eq_some_iff.1 hg
   exact hl
  have hg' : (sortWorldK Ba.rv 2 w g 0 m d os).heap[g]? = some (.cells (Go.Sort.putCells id 0 (flatK Ba.rv 2 d) cur) 70 (0,0)) := by
   unfold sortWorldK
   rw [heap_grow_old _ _ (by simpa [putRowK] using hlt)]
   show ((w.heap.modify g (Go.Sort.onCells _)))[g]? = _
   rw [Array.getElem?_modify,if_pos rfl,hg]
   rfl
  have hdl : d.toList.length = M.length := by simpa using hs
  refine ⟨by rw [Ba.flat_len],.inr ⟨g,cap,_,by rw [hdl,e2],hb,hg',by rw [hdl]; exact hnc,hcm,by simp [Go.Sort.putCells,hcs],?_⟩⟩
  rw [hdl]
  apply List.ext_getElem?
  intro t
  by_cases ht : t < M.length * 2
  ·
   obtain ⟨k,p,rfl,hp⟩ : ∃ k p,t = k * 2 + p ∧ p < 2 := ⟨t / 2,t % 2,by omega,by omega⟩
   have hk : k < d.toList.length := by omega
   have hkd : k < d.size := by simpa using hk
   have hc : k * 2 + p < cur.size := by omega
   rw [List.getElem?_take_of_lt ht,Ba.flat_at d.toList k p hk hp]
   unfold Go.Sort.putCells
   rw [Array.getElem?_toList,Array.getElem?_mapIdx,Array.getElem?_eq_getElem hc,Option.map_some,if_pos ⟨Nat.zero_le _,by rw [Go.Sort.size_flatK]; omega⟩,Nat.sub_zero,Go.Sort.get_flatK _ _ _ _ (by omega),show (k * 2 + p) / 2 = k by omega,show (k * 2 + p) % 2 = p by omega,getElem!_pos d k hkd]
   rcases (show p = 0 ∨ p = 1 by omega) with rfl | rfl
   · rfl
   · rfl
  · rw [List.getElem?_eq_none (by rw [List.length_take]; omega),List.getElem?_eq_none (by rw [Ba.flat_len,hdl]; omega)]
theorem below_sorted {B g m : Nat} {w0 w : World} (d : Array Ba.T) (os : Array Obj) (h : Below B w0 w) (hg : B ≤ g) (hlt : g < w.heap.size) : Below B w0 (sortWorldK Ba.rv 2 w g 0 m d os) := by
 refine ⟨h.os,h.tape,h.output,?_,fun k hk => ?_⟩
 ·
  have := h.size
  simp [sortWorldK,putRowK]
  omega
 ·
  rw [← h.block k hk]
  unfold sortWorldK
  rw [heap_grow_old _ _ (by simp [putRowK]; omega)]
  show ((w.heap.modify g (Go.Sort.onCells _)))[k]? = _
  rw [Array.getElem?_modify,if_neg (by omega)]
theorem rows_sort (M : List Ba.T) (B n cap : Nat) (ao : Option Addr) (w0 w : World) (hw : Below B w0 w) (hO : Ba.Own w B (.slice ao n cap) M) (hn : n = M.length) (hm : n ≤ 100000) :
  Calls Tryz.prog 160 #[.slice ao n cap,.func (.func 161) #[] #[]] w fun e w' => e = .returned (.tuple #[]) ∧
   ∃ D : Array Ba.T,Ba.Own w' B (.slice ao n cap) D.toList ∧ D.toList.Perm M ∧ D.size = M.length ∧ (∀ i j,i < j → j < D.size → Po.lt D[j]!.acct D[i]!.acct = false) ∧ Below B w0 w' := by
 by_cases h0 : n = 0
 ·
  subst h0
  have e : M = [] := List.length_eq_zero_iff.1 hn.symm
  subst e
  refine (AnyF.slices_SortFunc_none Tryz.sortB ao cap _ w).mono ?_
  rintro e w' ⟨rfl,rfl⟩
  exact ⟨rfl,#[],hO,List.Perm.refl _,rfl,fun i j h1 h2 => absurd h2 (by simp),hw⟩
 ·
  obtain ⟨g,rfl⟩ := Ba.own_some hO (by omega)
  have hB := Ba.own_ge hO g rfl
  have hlt := Ba.own_lt hO
  have hsz : M.toArray.size = n := by simpa using hn.symm
  have eg : ∀ args w,(callFunc 161 args).run Tryz.prog w = .ok (.enter 161 args) w := enters_of Tryz.func161 (by kernel_rfl) rfl
  have hcon := AnyQ.slices_SortFunc Tryz.sortB 2 agg_bal Tryz.sizeOf70 Ba.rv (fun _ => rfl) (fun x v hv => by unfold Ba.rv at hv; simp at hv; rcases hv with rfl | rfl <;> rfl) cmpB swo_cmp 161 #[] g 0 cap M.toArray w eg (cmp_lays g 0 _ w) (own_holds hO) hlt (by omega)
  rw [hsz] at hcon
  refine hcon.mono ?_
  rintro e w' ⟨rfl,d,m,os,hp,hs,rfl⟩
  have hds : d.size = n := by rw [hp.1,hsz]
  refine ⟨rfl,d,own_sorted d os hO (by omega),?_,by omega,fun i j h1 h2 => ?_,below_sorted d os hw hB hlt⟩
  ·
   have := hp.2.2
   rw [← hds,Array.extract_size,hds,← hsz,Array.extract_size] at this
   simpa using this
  ·
   have := hs i j (Nat.zero_le _) h1 (by omega)
   rw [ltOf_cmp] at this
   exact this
end Go.Proofs.YtillcleccjgocaaGreat
namespace Go.Proofs.YtillcleccjgocaaGreat.Ba
open Go.RowKit
open Mem
theorem flat_take : ∀ (M : List T) (o : Nat),(M.flatMap rv).take (o * 2) = (M.take o).flatMap rv
 | [],o => by simp
 | a :: l,0 => by simp
 | a :: l,o + 1 => by
  rw [List.flatMap_cons,List.take_succ_cons,List.flatMap_cons,show (o + 1) * 2 = (rv a).length + o * 2 by rw [rv_len]; omega,List.take_length_add_append,flat_take l o]
end Go.Proofs.YtillcleccjgocaaGreat.Ba
namespace Go.Proofs.YtillcleccjgocaaGreat
open Go.RowKit
open Mem
open Go.Sort (grow)
theorem rows_from (g n c k l c' : Nat) (x : Int) (hx : x = (k : Int)) (hk : k + l = n) (hc : k + c' = c) (hl : 0 < c') (hn : n ≤ c) (h63 : c ≤ 9223372036854775807) (u : World) :
  (Instr.slice 27 (.slice (some ⟨g,0,none⟩) n c) (some (.int .i64 x)) none none).run Tryz.prog u = .ok (.slice (some ⟨g,k * 2,none⟩) l c') u := by
 subst hx
 rw [run_slice_l u 27 (some ⟨g,0,none⟩) n c Ba.und .i64 k (by omega) (by omega),Ba.size]
 have e1 : n - k = l := by omega
 have e2 : c - k = c' := by omega
 have e3 : ¬ c = k := by omega
 simp [Result.andThen,sliced,e1,e2,e3,Addr.add]
 intro h
 exact h.symm
theorem rows_to (g n c k : Nat) (x : Int) (hx : x = (k : Int)) (hk : k ≤ c) (h63 : c ≤ 9223372036854775807) (u : World) :
  (Instr.slice 27 (.slice (some ⟨g,0,none⟩) n c) none (some (.int .i64 x)) none).run Tryz.prog u = .ok (.slice (some ⟨g,0,none⟩) k c) u := by
 subst hx
 rw [run_slice_h u 27 (some ⟨g,0,none⟩) n c Ba.und .i64 k (by omega) (by omega),Ba.size]
 simp [Result.andThen,sliced,Addr.add]
theorem own_get {w : World} {B g n cap : Nat} {D : Array Ba.T} (h : Ba.Own w B (.slice (some ⟨g,0,none⟩) n cap) D.toList) (i : Nat) (hi : i < D.size) : Ba.At w g (i * 2) D[i]! ∧ (∀ o,w.frozen? ⟨g,o,none⟩ = false) := by
 obtain ⟨h1,h2,_⟩ := Ba.own_at h i (by simpa using hi)
 rw [getElem!_pos D i hi]
 rw [Array.getElem_toList] at h1
 exact ⟨h1,h2⟩
theorem own_reach {w : World} {B n cap : Nat} {ao : Option Addr} {M : List Ba.T} (h : Ba.Own w B (.slice ao n cap) M) : n = M.length ∧ n ≤ cap ∧ cap ≤ 9223372036854775807 := by
 rcases h.2 with ⟨h',h0⟩ | ⟨g',cap',cur,h',hb,hg,hnc,hcm,hcs,htake⟩
 ·
  cases h'
  omega
 ·
  simp only [Value.slice.injEq] at h'
  obtain ⟨_,e2,e3⟩ := h'
  subst e3
  have : maxLen = 9223372036854775807 := rfl
  omega
theorem zero_cells (n : Nat) : (Builtin.zeroCells Ba.zeroV.cells n).toList = (List.replicate n Ba.zero).flatMap Ba.rv := by
 have h := congrArg Array.toList (Ba.made n)
 unfold Ba.zeros at h
 rw [List.toList_toArray] at h
 exact h
theorem rows_clear {w : World} {B g n cap k : Nat} {M : List Ba.T} (h : Ba.Own w B (.slice (some ⟨g,0,none⟩) n cap) M) (hk : k < n) :
  ∃ w',(∀ ty c,(Builtin.clear_ #[27] ty #[.slice (some ⟨g,k * 2,none⟩) (n - k) c]).run Tryz.prog w = .ok (.tuple #[]) w') ∧ Ba.Own w' B (.slice (some ⟨g,0,none⟩) k cap) (M.take k) ∧ (∀ w0,Below B w0 w → Below B w0 w') := by
 rcases h.2 with ⟨h',_⟩ | ⟨g',cap',cur,h',hb,hg,hnc,hcm,hcs,htake⟩
 · cases h'
 ·
  simp only [Value.slice.injEq,Option.some.injEq,Addr.mk.injEq,and_true] at h'
  obtain ⟨e1,e2,e3⟩ := h'
  subst e1 e3
  have hlen : ((List.replicate (n - k) Ba.zero).flatMap Ba.rv).length = (n - k) * 2 := by rw [Ba.flat_len,List.length_replicate]
  have hst := run_storeCells_at Tryz.prog g (k * 2) 70 ((List.replicate (n - k) Ba.zero).flatMap Ba.rv) 0 cur w hg (by rw [hlen]; omega) (Ba.one_cell _)
  rw [Nat.add_zero] at hst
  obtain ⟨m,hm⟩ : ∃ m,n - k = m + 1 := ⟨n - k - 1,by omega⟩
  have hz : ∀ u,(zeroValue 70).run Tryz.prog u = .ok Ba.zeroV u := Tryz.zeroValue70
  refine ⟨w.setRow g (cur.toList.take (k * 2) ++ (List.replicate (n - k) Ba.zero).flatMap Ba.rv ++ cur.toList.drop (k * 2 + ((List.replicate (n - k) Ba.zero).flatMap Ba.rv).length)).toArray,fun ty c => ?_,?_,fun w0 hw => below_setRow hw hb _⟩
  ·
   rw [hm] at hst ⊢
   simp only [Builtin.clear_,Sem.run_bind,Sem.run_pure,run_underlying Tryz.underlying27,Result.andThen_ok,List.getElem?_toArray,List.getElem?_cons_zero,hz,zero_cells,hst]
  ·
   have hkl : (M.take k).length = k := by rw [List.length_take]; omega
   refine ⟨by rw [Ba.flat_len],.inr ⟨g,cap,_,by rw [hkl],hb,setRow_heap w g _ _ 70 _ hg,by rw [hkl]; omega,hcm,?_,?_⟩⟩
   ·
    rw [List.size_toArray,List.length_append,List.length_append,List.length_take,List.length_drop,hlen,Array.length_toList,hcs]
    simp only [Nat.min_def]
    split <;> omega
   · rw [hkl,List.toList_toArray,List.append_assoc,List.take_left' (by rw [List.length_take,Array.length_toList,hcs]; simp only [Nat.min_def]; split <;> omega),← Ba.flat_take,← htake,List.take_take,Nat.min_eq_left (by omega)]
theorem eq_of {r s : Ba.T} (h0 : r.acct = s.acct) (h1 : r.amt = s.amt) : r = s := by
 cases r
 cases s
 simp only at h0 h1
 subst h0 h1
 rfl
theorem comp_done {D dk : Array Ba.T} {k : Nat} (h : Lib.CompInv D D.size k dk) : Lib.compactUpTo D D.size = dk.toList.take k := by
 apply List.ext_getElem?
 intro j
 have hk := h.lt
 have hs := h.size
 by_cases hj : j < k
 · rw [h.low j hj,List.getElem?_take_of_lt hj,Array.getElem?_toList,getElem!_pos dk j (by omega),Array.getElem?_eq_getElem]
 · rw [List.getElem?_eq_none (by rw [h.len]; omega),List.getElem?_eq_none (by rw [List.length_take]; omega)]
theorem comp_all {D : Array Ba.T} (h : ∀ j,j < D.size → Lib.keeps D j = true) : Lib.compactUpTo D D.size = D.toList := by
 rw [Lib.compactUpTo_all D _ h,Lib.range_map_get]
set_option maxHeartbeats 8000000 in
theorem rows_compact (D : Array Ba.T) (B n cap : Nat) (ao : Option Addr) (w0 w : World) (hw : Below B w0 w) (hO : Ba.Own w B (.slice ao n cap) D.toList) (hn : n = D.size) (hm : n ≤ 100000) :
  Calls Tryz.prog 162 #[.slice ao n cap] w fun e w' => ∃ k : Nat,e = .returned (.slice ao k cap) ∧ Ba.Own w' B (.slice ao k cap) (Lib.compactUpTo D D.size) ∧ Below B w0 w' := by
 have HW := Lib.hid hw
 have HO := Lib.hid hO
 have HN := Lib.hid hn
 obtain ⟨hx,hfit,hcap⟩ := own_reach hO
 clear hx
 clear hw hO hn
 by_cases h2 : n < 2
 ·
  have HA := Lib.hid (comp_all (D := D) fun j hj => Lib.keeps_lt_one D j (by have := HN.out; omega))
  go_enter Tryz.func162,Tryz.ntmps162
  go_wp2_with fail
  go_ret
  exact ⟨n,rfl,by rw [HA.out]; exact HO.out,HW.out⟩
 ·
  obtain ⟨g,rfl⟩ := Ba.own_some HO.out (by omega)
  have HG : Hid (B ≤ g) := Lib.hid (Ba.own_ge HO.out g rfl)
  go_enter Tryz.func162,Tryz.ntmps162
  go_wp2_with fail
  go_loopw [3] (fun i wr => ∃ k : Nat,k + 1 ≤ n ∧ i = .int .i64 ((k + 1 : Nat) : Int) ∧ Hid (∀ j,j < k + 1 → Lib.keeps D j = true) ∧ Hid (Ba.Own wr B (.slice (some ⟨g,0,none⟩) n cap) D.toList ∧ Below B w0 wr)) (fun i _ => n + 1 - (intOf i).toNat)
  case atStart => exact ⟨0,by omega,rfl,Lib.hid (fun j hj => Lib.keeps_lt_one D j hj),Lib.hid ⟨HO.out,HW.out⟩⟩
  case round =>
   rename World => wz
   obtain ⟨k,hk,rfl,HK,H⟩ := hrel
   by_cases hlt : k + 1 < n
   ·
    have hk1 : k + 1 < D.size := HN.out ▸ hlt
    obtain ⟨hr1,_⟩ := own_get H.out.1 k (by omega)
    obtain ⟨hr2,_⟩ := own_get H.out.1 (k + 1) hk1
    obtain ⟨s,hs⟩ : ∃ s,D[k]! = s := ⟨_,rfl⟩
    obtain ⟨r,hr⟩ : ∃ r,D[k + 1]! = r := ⟨_,rfl⟩
    have HR := Lib.hid (And.intro hr hs)
    rw [hs] at hr1
    rw [hr] at hr2
    clear hs hr
    obtain ⟨g0,g1⟩ := hr1
    obtain ⟨f0,f1⟩ := hr2
    have g0' := cell_regrown g0
    have g1' := cell_regrown g1
    have f0' := cell_regrown f0
    have f1' := cell_regrown f1
    clear g0 g1 f0 f1
    have HStep : Hid (r ≠ s → ∀ j,j < k + 1 + 1 → Lib.keeps D j = true) := Lib.hid fun hne j hj => by
     by_cases e : j = k + 1
     ·
      subst e
      exact Lib.keeps_pos (by rw [Nat.add_sub_cancel,HR.out.1,HR.out.2]; exact hne)
     · exact HK.out j (by omega)
    by_cases e0 : r.acct = s.acct
    ·
     have q0 : (r.acct.toList == s.acct.toList) = true := beq_iff_eq.2 (by rw [e0])
     by_cases e1 : r.amt = s.amt
     ·
      have q1 : (r.amt == s.amt) = true := beq_iff_eq.2 e1
      have HD : Hid (Lib.keeps D (k + 1) = false) := Lib.hid (Lib.keeps_neg (by omega) (by rw [Nat.add_sub_cancel,HR.out.1,HR.out.2]; exact eq_of e0 e1))
      have HC0 : Hid (Lib.CompInv D (k + 1 + 0 + 1) (k + 1) D) := Lib.hid (Lib.CompInv.start HK.out HD.out)
      have hsl := rows_from g n cap (k + 1) (n - (k + 1)) (cap - (k + 1)) ((k : Int) + 1) (by omega) (by omega) (by omega) (by omega) (by omega) hcap
      obtain ⟨L,hL⟩ : ∃ L,n - (k + 1) = L := ⟨_,rfl⟩
      obtain ⟨C,hC⟩ : ∃ C,cap - (k + 1) = C := ⟨_,rfl⟩
      obtain ⟨o,ho⟩ : ∃ o,(k + 1) * 2 = o := ⟨_,rfl⟩
      rw [hL,hC,ho] at hsl
      have hC1 : C ≤ 9223372036854775807 := by omega
      have hLC : L ≤ C := by omega
      have hL1 : k + 1 + L ≤ n := by omega
      have hL2 : n ≤ k + 1 + L := by omega
      have HOo := Lib.hid ho
      clear e0 e1 HD HStep hC hL ho
      go_wp2_with fail
      refine wp_region_quiet_below (by kernel_rfl) (by kernel_rfl) ?_
      repeat (first | go_big_quiet_step (fail) | quiet_step (fail))
      refine wpQuiet_nil ?_
      intro _ hw'
      obtain ⟨⟨dq,osq⟩,hw''⟩ := hw'
      subst hw''
      have HV : Hid (Ba.Own (grow (redrawn wz dq) osq) B (.slice (some ⟨g,0,none⟩) n cap) D.toList ∧ Below B w0 (grow (redrawn wz dq) osq)) := Lib.hid ⟨Ba.own_below H.out.1 (below_regrown wz dq osq),H.out.2.trans ((below_regrown wz dq osq).mono (Nat.le_trans HG.out (Nat.le_of_lt (Ba.own_lt H.out.1))))⟩
      generalize grow (redrawn wz dq) osq = wv at *
      clear g0' g1' f0' f1' q0 q1 H
      go_wp2_with fail
      go_loopw [3,5] (fun a b wr => ∃ (kk j : Nat) (dk : Array Ba.T),a = .int .i64 kk ∧ b = .int .i64 ((j + 1 : Nat) : Int) ∧ j + 1 ≤ L ∧ kk < n ∧ Hid (Lib.CompInv D (k + 1 + j + 1) kk dk) ∧ Hid (Ba.Own wr B (.slice (some ⟨g,0,none⟩) n cap) dk.toList ∧ Below B w0 wr)) (fun _ b _ => L + 1 - (intOf b).toNat)
      case atStart => exact ⟨k + 1,0,D,by go_num,rfl,by omega,hlt,HC0,HV⟩
      case round =>
       clear HV HC0 hsl
       rename World => wy
       obtain ⟨kk,j,dk,rfl,rfl,hj,hkk,HI,H⟩ := hrel
       have oj1 : (k + 1 + j) * 2 = o + j * 2 := by have := HOo.out; omega
       have oj2 : (k + 1 + (j + 1)) * 2 = o + (j + 1) * 2 := by have := HOo.out; omega
       have hds : dk.size = n := by rw [HI.out.size,HN.out]
       have hkm := HI.out.lt
       by_cases hlt2 : j + 1 < L
       ·
        obtain ⟨hu1,hfz⟩ := own_get H.out.1 (k + 1 + j) (by omega)
        obtain ⟨hu2,_⟩ := own_get H.out.1 (k + 1 + (j + 1)) (by omega)
        obtain ⟨hu3,_⟩ := own_get H.out.1 kk (by omega)
        rw [HI.out.high (k + 1 + j) (by omega),oj1] at hu1
        rw [HI.out.high (k + 1 + (j + 1)) (by omega),oj2] at hu2
        clear oj1 oj2
        obtain ⟨v,hv⟩ : ∃ v,D[k + 1 + j]! = v := ⟨_,rfl⟩
        obtain ⟨u,hu⟩ : ∃ u,D[k + 1 + (j + 1)]! = u := ⟨_,rfl⟩
        have HUV := Lib.hid (And.intro hu hv)
        rw [hv] at hu1
        rw [hu] at hu2
        generalize dk[kk]! = old at hu3
        clear hu hv
        obtain ⟨g0,g1⟩ := hu1
        obtain ⟨f0,f1⟩ := hu2
        have g0' := cell_regrown g0
        have g1' := cell_regrown g1
        have f0' := cell_regrown f0
        have f1' := cell_regrown f1
        have HSkip : Hid (u = v → Lib.CompInv D (k + 1 + (j + 1) + 1) kk dk) := Lib.hid fun e => HI.out.skip (Lib.keeps_neg (by omega) (by rw [show k + 1 + j + 1 = k + 1 + (j + 1) by omega,HUV.out.1,show k + 1 + (j + 1) - 1 = k + 1 + j by omega,HUV.out.2]; exact e))
        have HKeep : Hid (u ≠ v → Lib.CompInv D (k + 1 + (j + 1) + 1) (kk + 1) (dk.setIfInBounds kk u)) := Lib.hid fun e => by
         have h := HI.out.keep (by rw [← HN.out]; omega) (Lib.keeps_pos (by rw [show k + 1 + j + 1 = k + 1 + (j + 1) by omega,HUV.out.1,show k + 1 + (j + 1) - 1 = k + 1 + j by omega,HUV.out.2]; exact e))
         rw [show k + 1 + j + 1 = k + 1 + (j + 1) by omega,HUV.out.1] at h
         exact h
        have HFr : Hid (∀ wv,Below wy.heap.size wy wv → (wv.cell? ⟨g,kk * 2,none⟩ = some (.string old.acct) ∧ wv.cell? ⟨g,kk * 2 + 1,none⟩ = some (.int .i64 old.amt) ∧ (∀ o,wv.frozen? ⟨g,o,none⟩ = false) ∧ wv.cell? ⟨g,o + (j + 1) * 2,none⟩ = some (.string u.acct) ∧ wv.cell? ⟨g,o + (j + 1) * 2 + 1,none⟩ = some (.int .i64 u.amt)) ∧ Ba.Own wv B (.slice (some ⟨g,0,none⟩) n cap) dk.toList ∧ Below B w0 wv) := Lib.hid fun wv hb => by
         have hgl : g < wy.heap.size := Ba.own_lt H.out.1
         refine ⟨⟨?_,?_,fun o => ?_,?_,?_⟩,Ba.own_below H.out.1 hb,H.out.2.trans (hb.mono (Nat.le_trans HG.out (Nat.le_of_lt hgl)))⟩
         · rw [(bcell hb).1 _ _ hgl]; exact hu3.c0
         · rw [(bcell hb).1 _ _ hgl]; exact hu3.c1
         · rw [(bcell hb).2 _ _ hgl]; exact hfz o
         · rw [(bcell hb).1 _ _ hgl]; exact f0
         · rw [(bcell hb).1 _ _ hgl]; exact f1
        clear hu3 hfz g0 g1 f0 f1 HI H
        have fin : u ≠ v → Hid (u ≠ v) := fun h => Lib.hid h
        have both : (u.acct = v.acct ∧ u.amt = v.amt) ∨ (u.acct = v.acct ∧ u.amt ≠ v.amt) ∨ u.acct ≠ v.acct := by
         by_cases h0 : u.acct = v.acct
         ·
          by_cases h1 : u.amt = v.amt
          · exact .inl ⟨h0,h1⟩
          · exact .inr (.inl ⟨h0,h1⟩)
         · exact .inr (.inr h0)
        rcases both with ⟨e0,e1⟩ | ⟨e0,e1⟩ | e0
        ·
         have q0 : (u.acct.toList == v.acct.toList) = true := beq_iff_eq.2 (by rw [e0])
         have q1 : (u.amt == v.amt) = true := beq_iff_eq.2 e1
         have HE := Lib.hid (HSkip.out (eq_of e0 e1))
         clear e0 e1 fin HSkip HKeep
         go_wp2_with fail
         refine wp_region_quiet_below (by kernel_rfl) (by kernel_rfl) ?_
         repeat (first | go_big_quiet_step (fail) | quiet_step (fail))
         refine wpQuiet_nil ?_
         intro _ hw'
         obtain ⟨⟨dq,osq⟩,hw''⟩ := hw'
         subst hw''
         have HV := Lib.hid (HFr.out _ (below_regrown wy dq osq)).2
         go_wp2_with fail
         go_roundw
         case rel => exact ⟨kk,j + 1,dk,rfl,by go_num,by omega,hkk,HE,HV⟩
         case measure => simp [intOf]; omega
        ·
         have q0 : (u.acct.toList == v.acct.toList) = true := beq_iff_eq.2 (by rw [e0])
         have q1 : (u.amt == v.amt) = false := beq_eq_false_iff_ne.2 e1
         have HE := Lib.hid (HKeep.out fun h => e1 (by rw [h]))
         clear e0 e1 fin HSkip HKeep
         go_wp2_with fail
         refine wp_region_quiet_below (by kernel_rfl) (by kernel_rfl) ?_
         repeat (first | go_big_quiet_step (fail) | quiet_step (fail))
         refine wpQuiet_nil ?_
         intro _ hw'
         obtain ⟨⟨dq,osq⟩,hw''⟩ := hw'
         subst hw''
         obtain ⟨⟨c0,c1,cf,c2,c3⟩,hV⟩ := HFr.out _ (below_regrown wy dq osq)
         have HV := Lib.hid hV
         clear hV g0' g1' f0' f1'
         have cf0 := cf (kk * 2)
         have cf1 := cf (kk * 2 + 1)
         clear cf
         generalize grow (redrawn wy dq) osq = wv at *
         have HP : Hid (Ba.Own ((wv.setCell ⟨g,kk * 2,none⟩ (.string u.acct)).setCell ⟨g,kk * 2 + 1,none⟩ (.int .i64 u.amt)) B (.slice (some ⟨g,0,none⟩) n cap) (dk.setIfInBounds kk u).toList ∧ Below B w0 ((wv.setCell ⟨g,kk * 2,none⟩ (.string u.acct)).setCell ⟨g,kk * 2 + 1,none⟩ (.int .i64 u.amt))) := Lib.hid ⟨by
          have h := Ba.own_store HV.out.1 kk (by rw [Array.length_toList,hds]; exact hkk) u
          rw [Array.toList_setIfInBounds]
          exact h,Ba.below_store HV.out.2 HG.out kk _ _⟩
         go_wp2_with fail
         go_roundw
         case rel => exact ⟨kk + 1,j + 1,dk.setIfInBounds kk u,by go_num,by go_num,by omega,by omega,HE,HP⟩
         case measure => simp [intOf]; omega
        ·
         have q0 : (u.acct.toList == v.acct.toList) = false := beq_eq_false_iff_ne.2 fun h => e0 (Vt.cat_ext h)
         have HE := Lib.hid (HKeep.out fun h => e0 (by rw [h]))
         clear e0 fin HSkip HKeep
         go_wp2_with fail
         refine wp_region_quiet_below (by kernel_rfl) (by kernel_rfl) ?_
         repeat (first | go_big_quiet_step (fail) | quiet_step (fail))
         refine wpQuiet_nil ?_
         intro _ hw'
         obtain ⟨⟨dq,osq⟩,hw''⟩ := hw'
         subst hw''
         obtain ⟨⟨c0,c1,cf,c2,c3⟩,hV⟩ := HFr.out _ (below_regrown wy dq osq)
         have HV := Lib.hid hV
         clear hV g0' g1' f0' f1'
         have cf0 := cf (kk * 2)
         have cf1 := cf (kk * 2 + 1)
         clear cf
         generalize grow (redrawn wy dq) osq = wv at *
         have HP : Hid (Ba.Own ((wv.setCell ⟨g,kk * 2,none⟩ (.string u.acct)).setCell ⟨g,kk * 2 + 1,none⟩ (.int .i64 u.amt)) B (.slice (some ⟨g,0,none⟩) n cap) (dk.setIfInBounds kk u).toList ∧ Below B w0 ((wv.setCell ⟨g,kk * 2,none⟩ (.string u.acct)).setCell ⟨g,kk * 2 + 1,none⟩ (.int .i64 u.amt))) := Lib.hid ⟨by
          have h := Ba.own_store HV.out.1 kk (by rw [Array.length_toList,hds]; exact hkk) u
          rw [Array.toList_setIfInBounds]
          exact h,Ba.below_store HV.out.2 HG.out kk _ _⟩
         go_wp2_with fail
         go_roundw
         case rel => exact ⟨kk + 1,j + 1,dk.setIfInBounds kk u,by go_num,by go_num,by omega,by omega,HE,HP⟩
         case measure => simp [intOf]; omega
       ·
        obtain rfl : j + 1 = L := by omega
        clear oj1 oj2
        have hnn : k + 1 + j + 1 = D.size := by rw [← HN.out]; omega
        have HI2 : Hid (Lib.compactUpTo D D.size = dk.toList.take kk) := Lib.hid (comp_done (by have h := HI.out; rw [hnn] at h; exact h))
        obtain ⟨W,hcl,hW1,hW2⟩ := rows_clear H.out.1 hkk
        have HW1 := Lib.hid hW1
        have HW2 := Lib.hid (hW2 w0 H.out.2)
        have hs1 := rows_from g n cap kk (n - kk) (cap - kk) (kk : Int) rfl (by omega) (by omega) (by omega) (by omega) hcap
        have hs2 := rows_to g n cap kk (kk : Int) rfl (by omega) hcap
        clear hW1 hW2 HI H
        go_wp2_with fail
        go_ret
        exact ⟨kk,rfl,by rw [HI2.out]; exact HW1.out,HW2.out⟩
     ·
      have q1 : (r.amt == s.amt) = false := beq_eq_false_iff_ne.2 e1
      have HE := Lib.hid (HStep.out fun h => e1 (by rw [h]))
      clear e0 e1
      go_wp2_with fail
      refine wp_region_quiet_below (by kernel_rfl) (by kernel_rfl) ?_
      repeat (first | go_big_quiet_step (fail) | quiet_step (fail))
      refine wpQuiet_nil ?_
      intro _ hw'
      obtain ⟨⟨dq,osq⟩,hw''⟩ := hw'
      subst hw''
      have HV : Hid (Ba.Own (grow (redrawn wz dq) osq) B (.slice (some ⟨g,0,none⟩) n cap) D.toList ∧ Below B w0 (grow (redrawn wz dq) osq)) := Lib.hid ⟨Ba.own_below H.out.1 (below_regrown wz dq osq),H.out.2.trans ((below_regrown wz dq osq).mono (Nat.le_trans HG.out (Nat.le_of_lt (Ba.own_lt H.out.1))))⟩
      go_wp2_with fail
      go_roundw
      case rel => exact ⟨k + 1,by omega,by go_num,HE,HV⟩
      case measure => simp [intOf]; omega
    ·
     have q0 : (r.acct.toList == s.acct.toList) = false := beq_eq_false_iff_ne.2 fun h => e0 (Vt.cat_ext h)
     have HE := Lib.hid (HStep.out fun h => e0 (by rw [h]))
     clear e0
     go_wp2_with fail
     refine wp_region_quiet_below (by kernel_rfl) (by kernel_rfl) ?_
     repeat (first | go_big_quiet_step (fail) | quiet_step (fail))
     refine wpQuiet_nil ?_
     intro _ hw'
     obtain ⟨⟨dq,osq⟩,hw''⟩ := hw'
     subst hw''
     have HV : Hid (Ba.Own (grow (redrawn wz dq) osq) B (.slice (some ⟨g,0,none⟩) n cap) D.toList ∧ Below B w0 (grow (redrawn wz dq) osq)) := Lib.hid ⟨Ba.own_below H.out.1 (below_regrown wz dq osq),H.out.2.trans ((below_regrown wz dq osq).mono (Nat.le_trans HG.out (Nat.le_of_lt (Ba.own_lt H.out.1))))⟩
     go_wp2_with fail
     go_roundw
     case rel => exact ⟨k + 1,by omega,by go_num,HE,HV⟩
     case measure => simp [intOf]; omega
   ·
    obtain rfl : k + 1 = n := by omega
    have HA := Lib.hid (comp_all (D := D) fun j hj => HK.out j (by have := HN.out; omega))
    go_wp2_with fail
    go_ret
    exact ⟨k + 1,by go_num,by rw [HA.out]; exact H.out.1,H.out.2⟩
end Go.Proofs.YtillcleccjgocaaGreat
namespace Go.Proofs.YtillcleccjgocaaGreat
open Go.RowKit
open Mem
open Go.Sort (grow)
theorem Po.one_acct {bs ls : List Ba.T} (hS : Po.Sorted bs) : ∀ x ∈ bs ++ Po.news bs ls,∀ y ∈ bs ++ Po.news bs ls,x.acct = y.acct → x = y := by
 intro x hx y hy e
 rcases List.mem_append.1 hx with h | h
 ·
  rcases List.mem_append.1 hy with k | k
  ·
   obtain ⟨p1,_⟩ := Po.look hS h rfl
   obtain ⟨p2,_⟩ := Po.look hS k e.symm
   rw [← p1,← p2]
  ·
   have h1 := (Po.has_iff hS y.acct).2 ⟨x,h,e⟩
   rw [(Po.mem_news.1 k).2.1] at h1
   cases h1
 ·
  rcases List.mem_append.1 hy with k | k
  ·
   have h1 := (Po.has_iff hS x.acct).2 ⟨y,k,e.symm⟩
   rw [(Po.mem_news.1 h).2.1] at h1
   cases h1
  · exact eq_of e (by rw [(Po.mem_news.1 h).1,(Po.mem_news.1 k).1])
theorem Po.opened_rows {bs ls : List Ba.T} {D : Array Ba.T} (hS : Po.Sorted bs) (hp : D.toList.Perm (bs ++ Po.news bs ls)) (hs : ∀ i j,i < j → j < D.size → Po.lt D[j]!.acct D[i]!.acct = false) : Po.Opened bs ls (Lib.compactUpTo D D.size) := by
 have hmem : ∀ i,i < D.size → D[i]! ∈ bs ++ Po.news bs ls := fun i hi => by
  rw [← hp.mem_iff,getElem!_pos D i hi]
  simp
 obtain ⟨h1,h2⟩ := Po.compact_spec D hs (fun i j hi hj e => Po.one_acct hS _ (hmem i hi) _ (hmem j hj) e) D.size (Nat.le_refl _)
 refine Po.opened_of hS h1 fun x => ?_
 rw [h2 x,← hp.mem_iff]
 constructor
 ·
  rintro ⟨i,hi,rfl⟩
  rw [getElem!_pos D i hi]
  simp
 ·
  intro hx
  obtain ⟨i,hi,e⟩ := List.getElem_of_mem hx
  have hi' : i < D.size := by simpa using hi
  exact ⟨i,hi',by rw [getElem!_pos D i hi']; simpa using e⟩
theorem Po.news_short {bs : List Ba.T} : ∀ {ls : List Ba.T},(∀ r ∈ ls,Ba.Short r) → ∀ r ∈ Po.news bs ls,Ba.Short r
 | [],_,r,h => by cases h
 | x :: l,hs,r,h => by
  unfold Po.news at h
  split at h
  · exact Po.news_short (fun y hy => hs y (by simp [hy])) r h
  ·
   rcases List.mem_cons.1 h with rfl | h
   · exact ⟨(hs x (by simp)).1,⟨by show (-9223372036854775808 : Int) ≤ 0; omega,by show (0 : Int) ≤ 9223372036854775807; omega⟩⟩
   · exact Po.news_short (fun y hy => hs y (by simp [hy])) r h
theorem own_cap_len {w : World} {B n cap : Nat} {ao : Option Addr} {M : List Ba.T} (h : Ba.Own w B (.slice ao n cap) M) : n = M.length := (own_reach h).1
set_option maxHeartbeats 8000000 in
theorem post_opened (bs ls : List Ba.T) (ao bo : Option Addr) (n ca k0 cb : Nat) (w : World) (hB : Ba.Ls w ao n ca bs) (hL : Ba.Ls w bo k0 cb ls) (hS : Po.Sorted bs) (hn : n ≤ 1000) (hk0 : k0 ≤ 1000) :
  Calls Tryz.prog 124 #[.slice ao n ca,.slice bo k0 cb] w fun e w' => ∃ (v : Value) (M : List Ba.T),e = .returned v ∧ Ba.Own w' w.heap.size v M ∧ Po.Opened bs ls M ∧ (∀ r ∈ M,Ba.Short r) ∧ M.length ≤ 2000 ∧ Below w.heap.size w w' := by
 have HBs := Lib.hid hB
 have HL := Lib.hid hL
 have HN := Lib.hid hB.len
 have HLn := Lib.hid hL.len
 have HS := Lib.hid hS
 have hca := hB.reach
 have hna := hB.fits
 have hcb := hL.reach
 have hfb := hL.fits
 have hmk := Ba.make n (by omega)
 have hblk0 := Ba.block_made w n
 have hbel0 : Below w.heap.size w (w.alloc (.cells (Ba.zeros n) 70)) := (Below.refl _ _).alloc (Nat.le_refl _) _
 obtain ⟨W1,hcp,hblk,hbel,hsz⟩ := Ba.copy (w.alloc (.cells (Ba.zeros n) 70)) w.heap.size [] n ao n ca bs (by rw [List.append_nil]; exact hblk0) hB.len ((hB.below hbel0).seg)
 rw [List.length_nil,Nat.add_zero] at hcp
 rw [List.append_nil] at hblk
 have HB1 := Lib.hid (hbel _ _ hbel0 (Nat.le_refl _))
 have HO1 : Hid (Ba.Own W1 w.heap.size (.slice (some ⟨w.heap.size,0,none⟩) n n) (bs ++ Po.news bs (ls.take 0))) := Lib.hid (by
  rw [List.take_zero,Po.news,List.append_nil]
  exact Ba.own_of_block hblk (Nat.le_refl _) hB.len (by omega))
 clear hB hL hS hblk0 hbel0 hblk hbel hsz
 go_enter Tryz.func124,Tryz.ntmps124
 go_wp2_with fail
 clear hcp hmk
 go_loopw [5,7,16] (fun t _ i wr => ∃ (k : Nat) (vo : Option Addr) (q vc : Nat),k ≤ k0 ∧ i = .int .i64 k ∧ t = .slice vo q vc ∧ Hid (Below w.heap.size w wr) ∧ Hid (Ba.Own wr w.heap.size (.slice vo q vc) (bs ++ Po.news bs (ls.take k)))) (fun _ _ i _ => k0 - (intOf i).toNat)
 case atStart => exact ⟨0,_,n,n,by omega,rfl,rfl,HB1,HO1⟩
 case round =>
  clear HB1 HO1
  rename World => wz
  obtain ⟨k,vo,q,vc,hk,rfl,rfl,HB,HO⟩ := hrel
  by_cases hlt : k < k0
  ·
   obtain ⟨lb,loff,rfl⟩ := HL.out.at (by omega)
   have hkl : k < ls.length := HLn.out ▸ hlt
   have hrow := (HL.out.row k hkl).below HB.out
   have HSt := Lib.hid (Po.news_step bs ls k hkl)
   have HLe : Hid ((bs ++ Po.news bs (ls.take k)).length ≤ 2000) := Lib.hid (by
    rw [List.length_append]
    have h1 := Po.news_len bs (ls.take k)
    rw [List.length_take] at h1
    have h2 := HN.out
    omega)
   obtain ⟨x,hx⟩ : ∃ x,ls[k] = x := ⟨_,rfl⟩
   rw [hx] at hrow HSt
   clear hx
   obtain ⟨r0,r1⟩ := hrow
   obtain ⟨W,hW,hbW,hA⟩ := Ba.boxed1 wz x
   have HBW := Lib.hid (bchain HB.out hbW)
   have HOW := Lib.hid (Ba.own_below HO.out hbW)
   unfold Ba.C at hA
   obtain ⟨a0,a1⟩ := hA
   clear hbW
   go_wp2_with fail
   refine (post_has bs x.acct ao n ca W (HBs.out.below HBW.out) HS.out).mono ?_
   rintro e w2 ⟨rfl,hw2⟩
   have hw3 := hw2.symm
   clear hw2
   subst hw3
   clear hW
   cases hh : Po.has x.acct bs
   ·
    rw [hh,if_neg (by simp)] at HSt
    have hsz2 : w.heap.size ≤ W.heap.size := HBW.out.size
    clear hh
    go_wp2_with (at_builtin; go_must (refine Ba.wpList_append _ rfl (.tmp 25) (.tmp 29) rfl w.heap.size (.slice vo q vc) (bs ++ Po.news bs (ls.take k)) rfl (Ba.own_alloc HOW.out _) (some ⟨W.heap.size,0,none⟩) 1 1 [⟨x.acct,0⟩] rfl rfl (fun h => by cases h) (Ba.seg_block (heap_alloc_new W _)) (by have := HLe.out; omega) (by simp; omega) ?_))
    intro v1 w3 o1 gr1 _
    have HB3 : Hid (Below w.heap.size w w3) := Lib.hid ((below_box HBW.out _).grown gr1 (by simp; omega) (Ba.own_ge HOW.out))
    try rw [List.append_assoc] at o1
    rw [← HSt.out] at o1
    have HO3 := Lib.hid o1
    obtain ⟨va,q2,vc2,hv1⟩ : ∃ va q2 vc2,v1 = .slice va q2 vc2 := by
     rcases o1.2 with ⟨h',_⟩ | ⟨g',cap',cur,h',_⟩
     · exact ⟨_,_,_,h'⟩
     · exact ⟨_,_,_,h'⟩
    subst hv1
    clear gr1 o1 hsz2
    go_wp2_with fail
    go_roundw
    case rel => exact ⟨k + 1,va,q2,vc2,by omega,by go_num,rfl,HB3,HO3⟩
    case measure => simp [intOf]; omega
   ·
    rw [hh,if_pos rfl,List.append_nil] at HSt
    have HO3 : Hid (Ba.Own W w.heap.size (.slice vo q vc) (bs ++ Po.news bs (ls.take (k + 1)))) := Lib.hid (by rw [HSt.out]; exact HOW.out)
    clear hh
    go_wp2_with fail
    go_roundw
    case rel => exact ⟨k + 1,vo,q,vc,by omega,by go_num,rfl,HBW,HO3⟩
    case measure => simp [intOf]; omega
  ·
   obtain rfl : k = k0 := by omega
   have HO3 : Hid (Ba.Own wz w.heap.size (.slice vo q vc) (bs ++ Po.news bs ls)) := Lib.hid (by have h := HO.out; rw [List.take_of_length_le (Nat.le_of_eq HLn.out.symm)] at h; exact h)
   have HQ := Lib.hid (own_cap_len HO3.out)
   have HLe : Hid ((bs ++ Po.news bs ls).length ≤ 2000) := Lib.hid (by
    rw [List.length_append]
    have h1 := Po.news_len bs ls
    have h2 := HN.out
    have h3 := HLn.out
    omega)
   have HSh : Hid (∀ r ∈ bs ++ Po.news bs ls,Ba.Short r) := Lib.hid (by
    intro r hr
    rcases List.mem_append.1 hr with h | h
    · exact HBs.out.short r h
    · exact Po.news_short HL.out.short r h)
   have hq : q ≤ 2000 := by have h1 := HQ.out; have h2 := HLe.out; omega
   obtain ⟨h0,hh0⟩ : ∃ h0,w.heap.size = h0 := ⟨_,rfl⟩
   have HH0 := Lib.hid hh0
   rw [hh0] at HO3 HB
   rw [hh0]
   clear hh0 HO
   go_wp2_with fail
   refine (rows_sort _ h0 q vc vo w _ HB.out HO3.out HQ.out (by omega)).mono ?_
   rintro e w2 ⟨rfl,D,o2,hp,hD,hs,b2⟩
   have HO4 := Lib.hid o2
   have HB4 := Lib.hid b2
   have HOp := Lib.hid (Po.opened_rows HS.out hp hs)
   have HD : Hid (q = D.size) := Lib.hid (by rw [hD]; exact HQ.out)
   have HMe : Hid (∀ r ∈ Lib.compactUpTo D D.size,Ba.Short r) := Lib.hid (by
    intro r hr
    unfold Lib.compactUpTo at hr
    obtain ⟨i,hi,rfl⟩ := List.mem_map.1 hr
    have hi' : i < D.size := by
     have := (List.mem_filter.1 hi).1
     rwa [List.mem_range] at this
    apply HSh.out
    rw [← hp.mem_iff,getElem!_pos D i hi']
    simp)
   have HLc : Hid ((Lib.compactUpTo D D.size).length ≤ 2000) := Lib.hid (by
    unfold Lib.compactUpTo
    rw [List.length_map]
    have h1 := List.length_filter_le (Lib.keeps D) (List.range D.size)
    rw [List.length_range] at h1
    have := HD.out
    omega)
   clear o2 b2 hp hD hs HB HO3 HSh
   go_wp2_with fail
   refine (rows_compact D h0 q vc vo w _ HB4.out HO4.out HD.out (by omega)).mono ?_
   rintro e w3 ⟨k3,rfl,o3,b3⟩
   have HO5 := Lib.hid o3
   have HB5 := Lib.hid b3
   clear o3 b3 HO4 HB4
   go_wp2_with fail
   go_ret
   exact ⟨_,_,rfl,by rw [HH0.out]; exact HO5.out,HOp.out,HMe.out,HLc.out,by rw [HH0.out]; exact HB5.out⟩
end Go.Proofs.YtillcleccjgocaaGreat
namespace Go.Proofs.YtillcleccjgocaaGreat
open Go.RowKit
theorem both_fit {x : Int} (h : Mn.Fit x) : both (Mn.amt x) (Mn.err x) = both x 0 := by rw [Mn.amt_fit h,Mn.err_fit h]
theorem both_not {x : Int} (h : ¬ Mn.Fit x) : both (Mn.amt x) (Mn.err x) = both 0 7 := by rw [Mn.amt_not h,Mn.err_not h]
theorem add_any (a b : Int) (w : World) (ha : Mn.Fit a) (hb : Mn.Fit b) :
  Calls Tryz.prog 126 #[.int .i64 a,.int .i64 b] w fun e w' => e = both (Mn.amt (a + b)) (Mn.err (a + b)) ∧ w' = w := by
 obtain ⟨ha0,ha1⟩ := ha
 obtain ⟨hb0,hb1⟩ := hb
 go_enter Tryz.func126,Tryz.ntmps126
 by_cases hf : Mn.Fit (a + b)
 ·
  rw [both_fit hf]
  obtain ⟨hf0,hf1⟩ := hf
  by_cases h1 : 0 < b
  ·
   have h2 : ¬ 9223372036854775807 - b < a := by omega
   have h3 : ¬ b < 0 := by omega
   go_wp2
   go_ret2
   exact ⟨rfl,rfl⟩
  ·
   by_cases h3 : b < 0
   ·
    have h2 : ¬ a < -9223372036854775808 - b := by omega
    go_wp2
    go_ret2
    exact ⟨rfl,rfl⟩
   ·
    go_wp2
    go_ret2
    exact ⟨rfl,rfl⟩
 ·
  rw [both_not hf]
  by_cases h1 : 0 < b
  ·
   have h2 : 9223372036854775807 - b < a := by unfold Mn.Fit at hf; omega
   clear hf
   go_wp2
   go_ret2
   exact ⟨rfl,rfl⟩
  ·
   have h3 : b < 0 := by unfold Mn.Fit at hf; omega
   have h2 : a < -9223372036854775808 - b := by unfold Mn.Fit at hf; omega
   clear hf
   go_wp2
   go_ret2
   exact ⟨rfl,rfl⟩
theorem sub_any (a b : Int) (w : World) (ha : Mn.Fit a) (hb : Mn.Fit b) :
  Calls Tryz.prog 122 #[.int .i64 a,.int .i64 b] w fun e w' => e = both (Mn.amt (a - b)) (Mn.err (a - b)) ∧ w' = w := by
 obtain ⟨ha0,ha1⟩ := ha
 obtain ⟨hb0,hb1⟩ := hb
 go_enter Tryz.func122,Tryz.ntmps122
 by_cases hf : Mn.Fit (a - b)
 ·
  rw [both_fit hf]
  obtain ⟨hf0,hf1⟩ := hf
  by_cases h1 : 0 < b
  ·
   have h2 : ¬ a < -9223372036854775808 + b := by omega
   have h3 : ¬ b < 0 := by omega
   go_wp2
   go_ret2
   exact ⟨rfl,rfl⟩
  ·
   by_cases h3 : b < 0
   ·
    have h2 : ¬ 9223372036854775807 + b < a := by omega
    go_wp2
    go_ret2
    exact ⟨rfl,rfl⟩
   ·
    go_wp2
    go_ret2
    exact ⟨rfl,rfl⟩
 ·
  rw [both_not hf]
  by_cases h1 : 0 < b
  ·
   have h2 : a < -9223372036854775808 + b := by unfold Mn.Fit at hf; omega
   clear hf
   go_wp2
   go_ret2
   exact ⟨rfl,rfl⟩
  ·
   have h3 : b < 0 := by unfold Mn.Fit at hf; omega
   have h2 : 9223372036854775807 + b < a := by unfold Mn.Fit at hf; omega
   clear hf
   go_wp2
   go_ret2
   exact ⟨rfl,rfl⟩
end Go.Proofs.YtillcleccjgocaaGreat
namespace Go.Proofs.YtillcleccjgocaaGreat
open Go.RowKit
open Mem
open Go.Sort (grow)
def EnterE (w : World) (b l : List Ba.T) (e : Ending) (w' : World) : Prop := ∃ v,e = .returned (.tuple #[v,.int .i64 (Po.entE b l)]) ∧ Ba.Own w' w.heap.size v (Po.entL b l) ∧ Below w.heap.size w w'
structure ESt (w wr : World) (vo : Option Addr) (q vc : Nat) (M : List Ba.T) : Prop where
 bel : Below w.heap.size w wr
 own : Ba.Own wr w.heap.size (.slice vo q vc) M
 sh : ∀ r ∈ M,Ba.Short r
section
variable {w wr v : World} {vo : Option Addr} {q vc : Nat} {M : List Ba.T}
theorem ESt.below (h : ESt w wr vo q vc M) (b : Below wr.heap.size wr v) : ESt w v vo q vc M := ⟨bchain h.bel b,Ba.own_below h.own b,h.sh⟩
theorem ESt.len (h : ESt w wr vo q vc M) : q = M.length ∧ q ≤ vc ∧ vc ≤ 9223372036854775807 ∧ Ba.Ls wr vo q vc M := by
 obtain ⟨ao,cap,e,hL,_⟩ := Ba.own_ls h.own h.sh
 simp only [Value.slice.injEq] at e
 obtain ⟨e1,e2,e3⟩ := e
 subst e1 e3
 rw [← e2] at hL
 exact ⟨e2,hL.fits,hL.reach,hL⟩
theorem ESt.at (h : ESt w wr vo q vc M) (k : Nat) (hk : k < M.length) : ∃ b,vo = some ⟨b,0,none⟩ ∧ w.heap.size ≤ b ∧ Ba.At wr b (k * 2) M[k] ∧ (∀ o,wr.frozen? ⟨b,o,none⟩ = false) := by
 obtain ⟨ao,cap,e,hL,hg⟩ := Ba.own_ls h.own h.sh
 simp only [Value.slice.injEq] at e
 obtain ⟨e1,e2,e3⟩ := e
 subst e1 e3
 obtain ⟨b,off,hb⟩ := hL.at (by omega)
 obtain ⟨b',hb',hB⟩ := hg _ hb
 rw [hb'] at hb
 subst hb
 obtain ⟨h1,h2,h3⟩ := Ba.own_at h.own k hk
 exact ⟨b',rfl,hB,h1,h2⟩
theorem ESt.put (h : ESt w wr vo q vc M) {b : Nat} (hv : vo = some ⟨b,0,none⟩) (hb : w.heap.size ≤ b) (k p : Nat) (hk : k < M.length) (hp : p < 2) (x : Value) (r : Ba.T) (hr : Ba.rv r = (Ba.rv M[k]).set p x) (hs : Ba.Short r) : ESt w (wr.setCell ⟨b,k * 2 + p,none⟩ x) vo q vc (M.set k r) := by
 subst hv
 refine ⟨bset h.bel hb _ _,Ba.own_put h.own k p hk hp x r hr,?_⟩
 intro a ha
 rcases List.mem_or_eq_of_mem_set ha with ha | rfl
 · exact h.sh a ha
 · exact hs
end
theorem Iv_err_0 {x : Int} (h : Mn.err x = 0) : Mn.Fit x := by
 unfold Mn.err at h
 split at h
 · assumption
 · omega
theorem Po.part_short {c : ByteArray} (hc : c.size ≤ 140737488355328) : ∀ {M : List Ba.T},(∀ r ∈ M,Ba.Short r) → Ba.Short (Po.part c M)
 | [],_ => ⟨hc,⟨by show (-9223372036854775808 : Int) ≤ 0; omega,by show (0 : Int) ≤ _; omega⟩⟩
 | a :: l,hs => by
  unfold Po.part
  split
  · exact Po.part_short hc fun x hx => hs x (by simp [hx])
  ·
   split
   · exact hs a (by simp)
   · exact ⟨hc,⟨by show (-9223372036854775808 : Int) ≤ 0; omega,by show (0 : Int) ≤ _; omega⟩⟩
theorem Po.ins_short {c : ByteArray} (hc : c.size ≤ 140737488355328) : ∀ {M : List Ba.T},(∀ r ∈ M,Ba.Short r) → ∀ r ∈ Po.ins c M,Ba.Short r
 | [],_,r,hr => by
  obtain rfl := List.mem_singleton.1 hr
  exact ⟨hc,⟨by show (-9223372036854775808 : Int) ≤ 0; omega,by show (0 : Int) ≤ _; omega⟩⟩
 | a :: l,hs,r,hr => by
  unfold Po.ins at hr
  split at hr
  ·
   rcases List.mem_cons.1 hr with rfl | hr
   · exact hs _ (by simp)
   · exact Po.ins_short hc (fun x hx => hs x (by simp [hx])) r hr
  ·
   split at hr
   · exact hs r hr
   ·
    rcases List.mem_cons.1 hr with rfl | hr
    · exact ⟨hc,⟨by show (-9223372036854775808 : Int) ≤ 0; omega,by show (0 : Int) ≤ _; omega⟩⟩
    · exact hs r hr
end Go.Proofs.YtillcleccjgocaaGreat
namespace Go.Proofs.YtillcleccjgocaaGreat
open Go.RowKit
open Mem
open Go.Sort (grow)
theorem Po.enter_set {c : ByteArray} {n : Int} {M : List Ba.T} (h : Po.has c M = true) : ∃ hs : Po.spot c M < M.length,M[Po.spot c M] = Po.part c M ∧ Po.enter c n M = M.set (Po.spot c M) (Po.more (Po.part c M) n) := by
 have h1 := Po.ins_at (c := c) M
 have h2 := Po.ins_lt (c := c) M
 rw [Po.ins_has h] at h1 h2
 refine ⟨h2,?_,by unfold Po.enter; rw [Po.ins_has h]⟩
 rw [List.getElem?_eq_getElem h2] at h1
 exact Option.some.inj h1
structure Way (bs ls M b : List Ba.T) (k : Nat) : Prop where
 sorted : Po.Sorted M
 has : ∀ c,Po.has c M = (Po.has c bs || Po.named c ls)
 val : ∀ c,Po.val c M = Po.val c b
 right : Po.Sorted b
 goE : Po.goE (ls.drop k) b = Po.goE ls bs
 goL : Po.goL (ls.drop k) b = Po.goL ls bs
theorem Way.start {bs ls M : List Ba.T} (h : Po.Opened bs ls M) (hS : Po.Sorted bs) : Way bs ls M bs 0 := ⟨h.sorted,h.has,h.val,hS,rfl,rfl⟩
theorem named_at {ls : List Ba.T} {k : Nat} (hk : k < ls.length) : Po.named ls[k].acct ls = true := List.any_eq_true.2 ⟨_,List.getElem_mem hk,decide_eq_true rfl⟩
theorem Way.there {bs ls M b : List Ba.T} {k : Nat} (h : Way bs ls M b k) (hk : k < ls.length) : Po.has ls[k].acct M = true := by
 rw [h.has,named_at hk,Bool.or_true]
theorem Way.err {bs ls M b : List Ba.T} {k : Nat} (h : Way bs ls M b k) (hk : k < ls.length) : Mn.err ((Po.part ls[k].acct M).amt + ls[k].amt) = Po.enterE ls[k].acct ls[k].amt b := by
 have := h.val ls[k].acct
 unfold Po.val at this
 unfold Po.enterE
 rw [this]
theorem Way.step {bs ls M b : List Ba.T} {k : Nat} (h : Way bs ls M b k) (hk : k < ls.length) (he : Po.enterE ls[k].acct ls[k].amt b = 0) : Way bs ls (Po.enter ls[k].acct ls[k].amt M) (Po.enter ls[k].acct ls[k].amt b) (k + 1) := by
 refine ⟨Po.enter_sorted h.sorted,fun c => ?_,fun c => ?_,Po.enter_sorted h.right,?_,?_⟩
 ·
  have h1 := Po.val_enter c ls[k].acct ls[k].amt M
  rw [h1.2,h.has]
  by_cases e : ls[k].acct = c
  ·
   rw [← e,named_at hk]
   simp
  · rw [decide_eq_false e,Bool.or_false]
 ·
  have h1 := Po.val_enter c ls[k].acct ls[k].amt M
  have h2 := Po.val_enter c ls[k].acct ls[k].amt b
  rw [h1.1,h2.1,h.val]
 ·
  have := Po.goE_at ls b k hk
  rw [he,if_neg (by simp)] at this
  rw [← this]
  exact h.goE
 ·
  rw [← Po.goL_at ls b k hk]
  exact h.goL
theorem Way.done {bs ls M b : List Ba.T} {k : Nat} (h : Way bs ls M b k) (hk : k = ls.length) : M = Po.goL ls bs ∧ Po.goE ls bs = 0 := by
 have h1 := h.goL
 have h2 := h.goE
 rw [List.drop_eq_nil_of_le (Nat.le_of_eq hk.symm)] at h1 h2
 have e1 : b = Po.goL ls bs := h1
 refine ⟨?_,h2.symm⟩
 rw [← e1]
 refine Po.ext_val h.sorted h.right fun c => ⟨?_,h.val c⟩
 rw [h.has,e1,(Po.val_goL c ls bs).2]
theorem Way.stop {bs ls M b : List Ba.T} {k : Nat} (h : Way bs ls M b k) (hk : k < ls.length) (he : Po.enterE ls[k].acct ls[k].amt b = 7) : Po.goE ls bs = 7 := by
 rw [← h.goE,Po.goE_at ls b k hk,he]
 rfl
set_option maxHeartbeats 8000000 in
theorem post_enter (bs ls : List Ba.T) (ao bo : Option Addr) (n ca k0 cb : Nat) (w : World) (hB : Ba.Ls w ao n ca bs) (hL : Ba.Ls w bo k0 cb ls) (hn : n ≤ 1000) (hk0 : k0 ≤ 1000) :
  Calls Tryz.prog 81 #[.slice ao n ca,.slice bo k0 cb] w (EnterE w bs ls) := by
 have HBs := Lib.hid hB
 have HL := Lib.hid hL
 have HN := Lib.hid hB.len
 have HLn := Lib.hid hL.len
 have hca := hB.reach
 have hna := hB.fits
 have hcb := hL.reach
 have hfb := hL.fits
 clear hB hL
 go_enter Tryz.func81,Tryz.ntmps81
 go_wp2_with fail
 refine (post_right bs ao n ca w _ (Below.refl _ _) HBs.out).mono ?_
 rintro e w1 ⟨rfl,b1⟩
 have HB1 := Lib.hid b1
 clear b1
 cases hT : Po.rightB bs
 ·
  have HP := Lib.hid (Po.ent_arg (l := ls) hT)
  clear hT
  go_wp2_with fail
  go_ret2
  exact ⟨_,by rw [HP.out.1]; rfl,by rw [HP.out.2]; exact Ba.own_nil _ _,HB1.out⟩
 ·
  have HT := Lib.hid (Po.ent_go (l := ls) hT)
  have HS := Lib.hid ((Po.right_iff bs).1 hT)
  clear hT
  go_wp2_with fail
  refine (post_opened bs ls ao bo n ca k0 cb w1 (HBs.out.below HB1.out) (HL.out.below HB1.out) HS.out hn hk0).mono ?_
  rintro e w2 ⟨v,M0,rfl,o2,hop,hsh,hlen,b2⟩
  have HW0 := Lib.hid (Way.start hop HS.out)
  obtain ⟨va,vc0,hv1,hV,_⟩ := Ba.own_ls o2 hsh
  subst hv1
  have HE0 : Hid (ESt w w2 va M0.length vc0 M0) := Lib.hid ⟨bchain HB1.out b2,Ba.own_mono o2 HB1.out.size,hsh⟩
  have HLe := Lib.hid hlen
  clear o2 hop hsh hV b2 hlen HB1
  obtain ⟨q0,hq0⟩ : ∃ q0,M0.length = q0 := ⟨_,rfl⟩
  rw [hq0] at HE0 HLe
  rw [hq0]
  clear hq0
  go_wp2_with fail
  go_loopw [8,9,10,11,20] (fun _ _ _ _ i wr => ∃ (k : Nat) (M b : List Ba.T),k ≤ k0 ∧ i = .int .i64 k ∧ Hid (ESt w wr va q0 vc0 M) ∧ Hid (Way bs ls M b k)) (fun _ _ _ _ i _ => k0 - (intOf i).toNat)
  case atStart => exact ⟨0,M0,bs,by omega,rfl,HE0,HW0⟩
  case round =>
   clear HE0 HW0
   rename World => wz
   obtain ⟨k,M,b,hk,rfl,H,HG⟩ := hrel
   by_cases hlt : k < k0
   ·
    obtain ⟨lb,loff,rfl⟩ := HL.out.at (by omega)
    have hkl : k < ls.length := HLn.out ▸ hlt
    have hrow := (HL.out.row k hkl).below H.out.bel
    have HSh := Lib.hid (HL.out.short _ (List.getElem_mem hkl))
    have HTh := Lib.hid (HG.out.there hkl)
    have HEr := Lib.hid (HG.out.err hkl)
    have HStep : Hid (Po.enterE ls[k].acct ls[k].amt b = 0 → Way bs ls (Po.enter ls[k].acct ls[k].amt M) (Po.enter ls[k].acct ls[k].amt b) (k + 1)) := Lib.hid (HG.out.step hkl)
    have HStop : Hid (Po.enterE ls[k].acct ls[k].amt b = 7 → Po.goE ls bs = 7) := Lib.hid (HG.out.stop hkl)
    obtain ⟨x,hx⟩ : ∃ x,ls[k] = x := ⟨_,rfl⟩
    rw [hx] at hrow HSh HTh HEr HStep HStop
    clear hx
    obtain ⟨hsl,hps,hent⟩ := Po.enter_set (n := x.amt) HTh.out
    obtain ⟨r0,r1⟩ := hrow
    obtain ⟨W,hW,hbW,hA⟩ := Ba.boxed1 wz x
    have H1 := Lib.hid (H.out.below hbW)
    unfold Ba.C at hA
    obtain ⟨a0,a1⟩ := hA
    clear hbW H
    obtain ⟨hq1,hq2,hq3,hLs⟩ := H1.out.len
    obtain ⟨g,hvb,hgb,hAt,hfz⟩ := H1.out.at (Po.spot x.acct M) hsl
    rw [hps] at hAt
    subst hvb
    have HPl := Lib.hid (post_place M x.acct _ q0 vc0 W hLs HG.out.sorted)
    have HSl := Lib.hid hsl
    have HPs : Hid (M[Po.spot x.acct M]? = some (Po.part x.acct M)) := Lib.hid (by rw [List.getElem?_eq_getElem hsl,hps])
    have HEn := Lib.hid hent
    have hsq : Po.spot x.acct M < q0 := hq1 ▸ hsl
    obtain ⟨s,hs⟩ : ∃ s,Po.spot x.acct M = s := ⟨_,rfl⟩
    have HPh := Lib.hid (H1.out.sh _ (List.getElem_mem hsl))
    rw [hps] at HPh
    obtain ⟨p,hp⟩ : ∃ p,Po.part x.acct M = p := ⟨_,rfl⟩
    rw [hp] at HPh hAt HEr HEn HPs
    rw [hs] at HPl hAt HEn hsq HSl HPs
    clear hps hent hsl hLs hq1 hs hp
    obtain ⟨d0,d1⟩ := hAt
    have f1 := hfz (s * 2 + 1)
    have k1 := cell_regrown d1
    have l1 := cell_regrown a1
    obtain ⟨E,hE⟩ : ∃ E,Mn.err (p.amt + x.amt) = E := ⟨_,rfl⟩
    obtain ⟨X,hX⟩ : ∃ X,Mn.amt (p.amt + x.amt) = X := ⟨_,rfl⟩
    have c1 : ∀ i os,Calls Tryz.prog 126 #[.int .i64 p.amt,.int .i64 x.amt] (grow (redrawn W i) os) fun e w'' => e = .returned (.tuple #[.int .i64 X,.int .i64 E]) ∧ ∃ q : Regrown,w'' = grow (redrawn W q.d) q.os := fun i os => Calls.regrown_of ((add_any p.amt x.amt _ HPh.out.2 HSh.out.2).mono fun e w'' ⟨h1,h2⟩ => ⟨by rw [h1,hE,hX]; rfl,h2 ▸ Below.refl _ _⟩)
    have HEx := Lib.hid (And.intro hE hX)
    clear hE hX hfz
    go_wp2_with fail
    refine HPl.out.mono ?_
    rintro e w3 ⟨rfl,hw3⟩
    have hw4 := hw3.symm
    clear hw3
    subst hw4
    clear hW HPl
    go_wp2_with fail
    refine wp_region_quiet_below (by kernel_rfl) (by kernel_rfl) ?_
    repeat (first | go_big_quiet_step (first | (go_at_call 126; exact c1 _ _)) | quiet_step (first | (go_at_call 126; exact c1 _ _)))
    refine wpQuiet_nil ?_
    intro _ hw'
    obtain ⟨⟨dq,osq⟩,hw''⟩ := hw'
    subst hw''
    have H7 := Lib.hid (H1.out.below (below_regrown W dq osq))
    clear k1 l1 c1 d0 d1 a0 a1 r0 r1 f1 H1
    generalize grow (redrawn W dq) osq = wx at *
    rcases Mn.err_two (p.amt + x.amt) with e1 | e1
    ·
     have hE0 : E = 0 := HEx.out.1.symm.trans e1
     have hX0 : X = p.amt + x.amt := HEx.out.2.symm.trans (Mn.amt_fit (Iv_err_0 e1))
     subst hE0 hX0
     have HE0 := Lib.hid (HStep.out (HEr.out.symm.trans e1))
     have HFx := Lib.hid (Iv_err_0 e1)
     obtain ⟨b2,hb2,_,hAt,hfz⟩ := H7.out.at s HSl.out
     cases hb2
     have hps2 : M[s]'HSl.out = p := by
      have h := HPs.out
      rw [List.getElem?_eq_getElem HSl.out] at h
      exact Option.some.inj h
     have HPut : Hid (ESt w (wx.setCell ⟨g,s * 2 + 1,none⟩ (.int .i64 (p.amt + x.amt))) (some ⟨g,0,none⟩) q0 vc0 (Po.enter x.acct x.amt M)) := Lib.hid (by
      have h := H7.out.put rfl hgb s 1 HSl.out (by omega) (.int .i64 (p.amt + x.amt)) ⟨p.acct,p.amt + x.amt⟩ (by rw [hps2]; rfl) ⟨HPh.out.1,HFx.out⟩
      rw [HEn.out]
      exact h)
     rw [hps2] at hAt
     obtain ⟨r0,r1⟩ := hAt
     have f1 := hfz (s * 2 + 1)
     clear e1 hfz hps2
     go_wp2_with fail
     go_roundw
     case rel => exact ⟨k + 1,Po.enter x.acct x.amt M,Po.enter x.acct x.amt b,by omega,by go_num,HPut,HE0⟩
     case measure => simp [intOf]; omega
    ·
     have hE0 : E = 7 := HEx.out.1.symm.trans e1
     subst hE0
     have HE7 := Lib.hid (HStop.out (HEr.out.symm.trans e1))
     have HP : Hid (Po.entE bs ls = 7 ∧ Po.entL bs ls = []) := Lib.hid (by
      have h : Po.entE bs ls = 7 := by rw [HT.out,HE7.out]
      exact ⟨h,by unfold Po.entL; rw [h]; rfl⟩)
     have HBf := Lib.hid H7.out.bel
     clear e1
     go_wp2_with fail
     go_ret2
     exact ⟨_,by rw [HP.out.1]; rfl,by rw [HP.out.2]; exact Ba.own_nil _ _,HBf.out⟩
   ·
    obtain rfl : k = k0 := by omega
    have HD := Lib.hid (HG.out.done HLn.out)
    have HP : Hid (Po.entE bs ls = 0 ∧ Po.entL bs ls = M) := Lib.hid (by
     have h : Po.entE bs ls = 0 := by rw [HT.out,HD.out.2]
     exact ⟨h,by unfold Po.entL; rw [h,HD.out.1]; rfl⟩)
    have HO := Lib.hid H.out.own
    have HBf := Lib.hid H.out.bel
    go_wp2_with fail
    go_ret2
    exact ⟨_,by rw [HP.out.1]; rfl,by rw [HP.out.2]; exact HO.out,HBf.out⟩
end Go.Proofs.YtillcleccjgocaaGreat
namespace Go.Proofs.YtillcleccjgocaaGreat
open Go.RowKit
open Mem
theorem text_add (a b : ByteArray) (h : a.size + b.size ≤ 9223372036854775807) : ∀ u,(Op.stringOp .add a b).run Tryz.prog u = .ok (.string (a ++ b)) u := fun u => run_string_add_sum u a b h
def EntrE (w : World) (g : Int) (ps : List Pt.T) (e : Ending) (w' : World) : Prop := ∃ v,e = .returned (.tuple #[v,.int .i64 (Po.entrE ps)]) ∧ Ba.Own w' w.heap.size v (Po.entrR g ps) ∧ Below w.heap.size w w'
theorem Iv_err_z {x : Int} (h : Mn.err x = 0) : Mn.Fit x := by
 unfold Mn.err at h
 split at h
 · assumption
 · omega
theorem entr_len (g : Int) (ps : List Pt.T) : (Po.entrL g ps).length = 1 + 2 * ps.length := by
 unfold Po.entrL
 rw [List.length_cons]
 have : (ps.flatMap Po.rowsOf).length = 2 * ps.length := by
  induction ps with
  | nil => rfl
  | cons p l ih =>
   rw [List.flatMap_cons,List.length_append,ih,List.length_cons]
   show 2 + _ = _
   omega
 omega
theorem entr_short {g : Int} {ps : List Pt.T} (hg : Fit g) (hs : ∀ x ∈ ps,Pt.Short x) (hc : ∀ x ∈ ps,x.cat.size ≤ 140737488351232) (hb : ∀ x ∈ ps,Po.badE x = false) : ∀ r ∈ Po.entrL g ps,Ba.Short r := by
 intro r hr
 unfold Po.entrL at hr
 rcases List.mem_cons.1 hr with rfl | hr
 · exact ⟨(by decide : Po.owedA.size ≤ 140737488355328),hg⟩
 ·
  obtain ⟨p,hp,hr⟩ := List.mem_flatMap.1 hr
  have h1 := hc p hp
  have h2 := hb p hp
  unfold Po.badE at h2
  rw [decide_eq_false_iff_not] at h2
  have e1 : Mn.err (-p.net) = 0 := Decidable.byContradiction fun q => h2 (.inl q)
  have e2 : Mn.err (-p.tax) = 0 := Decidable.byContradiction fun q => h2 (.inr q)
  unfold Po.rowsOf at hr
  simp only [List.mem_cons,List.not_mem_nil,or_false] at hr
  rcases hr with rfl | rfl
  · exact ⟨by show (Po.netA ++ p.cat).size ≤ _; rw [ByteArray.size_append]; have : Po.netA.size = 4 := rfl; omega,Iv_err_z e1⟩
  · exact ⟨by show (Po.taxA ++ p.cat).size ≤ _; rw [ByteArray.size_append]; have : Po.taxA.size = 4 := rfl; omega,Iv_err_z e2⟩
end Go.Proofs.YtillcleccjgocaaGreat
namespace Go.Proofs.YtillcleccjgocaaGreat
open Go.RowKit
open Mem
theorem subZ (x : Int) (w : World) (hx : Fit x) : Calls Tryz.prog 122 #[.int .i64 0,.int .i64 x] w fun e w' => e = both (Mn.amt (-x)) (Mn.err (-x)) ∧ w' = w := by
 have h := sub_any 0 x w (by decide) hx
 rw [Int.zero_sub] at h
 exact h
theorem make_two (p : Nat) (hp : p ≤ 1000) (u : World) : (Instr.makeSlice 27 (.int .i64 0) (.int .i64 (1 + 2 * (p : Int)))).run Tryz.prog u =
  .ok (.slice (some ⟨u.heap.size,0,none⟩) 0 (1 + 2 * p)) (u.alloc (.cells (Ba.zeros (1 + 2 * p)) 70)) := by
 obtain ⟨i0,hi,hz0,hz1,hz2⟩ := info_parts Ba.info
 have h := run_make (P := Tryz.prog) u 27 70 i0 Ba.zeroV Tryz.underlying27 hi hz0 .i64 .i64 0 (1 + 2 * (p : Int)) (by omega) (by omega) (by rw [hz2]; omega) (by omega)
 rw [hz1,show (1 + 2 * (p : Int)).toNat = 1 + 2 * p from by omega,Ba.made] at h
 exact h
theorem own_two (u : World) (p : Nat) (hp : p ≤ 1000) : Ba.Own (u.alloc (.cells (Ba.zeros (1 + 2 * p)) 70)) u.heap.size (.slice (some ⟨u.heap.size,0,none⟩) 0 (1 + 2 * p)) [] :=
 ⟨rfl,.inr ⟨u.heap.size,1 + 2 * p,Ba.zeros (1 + 2 * p),rfl,Nat.le_refl _,heap_alloc_new u _,Nat.zero_le _,by have : maxLen = 9223372036854775807 := rfl; omega,by unfold Ba.zeros; rw [List.size_toArray,Ba.flat_len,List.length_replicate],rfl⟩⟩
theorem index_0 (a b c d : Value) (u : World) : (Instr.index 192 (.agg #[a,b,c,d]) (.int .i64 0)).run Tryz.prog u = .ok (.agg #[a,b]) u := by kernel_rfl
theorem index_1 (a b c d : Value) (u : World) : (Instr.index 192 (.agg #[a,b,c,d]) (.int .i64 1)).run Tryz.prog u = .ok (.agg #[c,d]) u := by kernel_rfl
theorem rows_take (G : Int) (ps : List Pt.T) (r : Pt.T) (k j : Nat) : (Po.entrL G (ps.take k) ++ (Po.rowsOf r).take j).length ≤ 1 + 2 * k + 2 := by
 rw [List.length_append,entr_len,List.length_take,List.length_take]
 have : (Po.rowsOf r).length = 2 := rfl
 omega
theorem own_slice {w : World} {B : Nat} {v : Value} {M : List Ba.T} (h : Ba.Own w B v M) : ∃ ao n cap,v = .slice ao n cap := by
 rcases h.2 with ⟨h',_⟩ | ⟨g',cap',cur,h',_⟩
 · exact ⟨_,_,_,h'⟩
 · exact ⟨_,_,_,h'⟩
set_option maxHeartbeats 8000000 in
theorem post_entries (N X G : Int) (ps : List Pt.T) (ao : Option Addr) (p cap : Nat) (w : World) (hL : Pt.Ls w ao p cap ps) (hG : Fit G) (hp : p ≤ 1000) (hc : ∀ x ∈ ps,x.cat.size ≤ 140737488351232) :
  Calls Tryz.prog 80 #[Tt.val N X G (.slice ao p cap)] w (EntrE w G ps) := by
 have HL := Lib.hid hL
 have HLn := Lib.hid hL.len
 have HCa := Lib.hid hc
 have hcap := hL.reach
 have hfit := hL.fits
 obtain ⟨U,hU⟩ : ∃ U,w.alloc (.cells #[.int .i64 N,.int .i64 X,.int .i64 G,.slice ao p cap] 98) = U := ⟨_,rfl⟩
 have hbU : Below w.heap.size w U := hU ▸ (Below.refl _ _).alloc (Nat.le_refl _) _
 have hAU : Tt.At U w.heap.size N X G (.slice ao p cap) := hU ▸ Tt.at_box w N X G (.slice ao p cap)
 have HBU := Lib.hid hbU
 obtain ⟨V,hV⟩ : ∃ V,U.alloc (.cells (Ba.zeros (1 + 2 * p)) 70) = V := ⟨_,rfl⟩
 have hbV : Below U.heap.size U V := hV ▸ (Below.refl _ _).alloc (Nat.le_refl _) _
 have HBV := Lib.hid hbV
 have HOV : Hid (Ba.Own V U.heap.size (.slice (some ⟨U.heap.size,0,none⟩) 0 (1 + 2 * p)) []) := Lib.hid (hV ▸ own_two U p hp)
 have HAU := Lib.hid hAU
 obtain ⟨u0,u1,u2,u3⟩ := hAU.cells
 obtain ⟨c0,c1,c2,c3⟩ := (hAU.below hbV).cells
 have hmk := make_two p hp
 have HLU := Lib.hid (hL.below hbU)
 have hUV : U.heap.size ≤ V.heap.size := hbV.size
 clear hL hc hG hbU hAU hbV u0 u1 c0 c1
 unfold Tt.val
 go_enter Tryz.func80,Tryz.ntmps80
 go_wp2_with (at_builtin; go_must (refine Ba.wpList_append _ rfl (.tmp 17) (.tmp 21) rfl U.heap.size (.slice (some ⟨U.heap.size,0,none⟩) 0 (1 + 2 * p)) [] rfl (Ba.own_alloc HOV.out _) (some ⟨V.heap.size,0,none⟩) 1 1 [⟨Po.owedA,G⟩] rfl rfl (fun h => by cases h) (Ba.seg_block (heap_alloc_new V _)) (by simp) (by simp; omega) ?_))
 intro v1 w2 o1 gr1 _
 have HB0 : Hid (Below U.heap.size U w2) := Lib.hid ((below_box HBV.out _).grown gr1 (by simp; omega) (Ba.own_ge HOV.out))
 obtain ⟨va,q1,vc1,hv1⟩ := own_slice o1
 subst hv1
 have HO0 : Hid (Ba.Own w2 U.heap.size (.slice va q1 vc1) (Po.entrL G (ps.take 0))) := Lib.hid o1
 have c3' := (HAU.out.below HB0.out).cells.2.2.2
 clear gr1 o1 hU hV hmk u2 u3 c2 c3 hUV HBV HOV
 obtain ⟨h,hh⟩ : ∃ h,w.heap.size = h := ⟨_,rfl⟩
 rw [hh] at c3' HAU
 rw [hh]
 have HHw := Lib.hid hh
 clear hh
 go_wp2_with fail
 clear c3'
 go_loopw [4,6,8,9,10,26] (fun t _ _ _ _ i wr => ∃ (k : Nat) (vo : Option Addr) (q vc : Nat),k ≤ p ∧ i = .int .i64 k ∧ t = .slice vo q vc ∧ Hid (Below U.heap.size U wr) ∧ Hid (Ba.Own wr U.heap.size (.slice vo q vc) (Po.entrL G (ps.take k))) ∧ Hid (∀ x ∈ ps.take k,Po.badE x = false)) (fun _ _ _ _ _ i _ => p - (intOf i).toNat)
 case atStart => exact ⟨0,va,q1,vc1,by omega,rfl,rfl,HB0,HO0,Lib.hid (by simp)⟩
 case round =>
  clear HB0 HO0
  rename World => wz
  obtain ⟨k,vo,q,vc,hk,rfl,rfl,HB,HO,HK⟩ := hrel
  by_cases hlt : k < p
  ·
   obtain ⟨b,off,rfl⟩ := HLU.out.at (by omega)
   have hkl : k < ps.length := HLn.out ▸ hlt
   have hrow := (HLU.out.row k hkl).below HB.out
   have HSt := Lib.hid (Po.entr_step G ps k hkl)
   have HTk := Lib.hid (List.take_succ_eq_append_getElem hkl)
   have HSh := Lib.hid (HL.out.short _ (List.getElem_mem hkl))
   have HMm : Hid (ps[k] ∈ ps) := Lib.hid (List.getElem_mem hkl)
   have HCk := Lib.hid (HCa.out _ (List.getElem_mem hkl))
   obtain ⟨r,hr⟩ : ∃ r,ps[k] = r := ⟨_,rfl⟩
   rw [hr] at hrow HSt HTk HSh HMm HCk
   clear hr
   obtain ⟨r0,r1,r2,r3⟩ := hrow
   obtain ⟨W,hW,hbW,hA⟩ := Pt.boxed1 wz r
   have HBW := Lib.hid (bchain HB.out hbW)
   have HOW : Hid (Ba.Own W U.heap.size (.slice vo q vc) (Po.entrL G (ps.take k) ++ (Po.rowsOf r).take 0)) := Lib.hid (by
    rw [List.take_zero,List.append_nil]
    exact Ba.own_below HO.out hbW)
   unfold Pt.C at hA
   obtain ⟨a0,a1,a2,a3⟩ := hA
   obtain ⟨t1,ht1⟩ : ∃ t1,Po.netA ++ r.cat = t1 := ⟨_,rfl⟩
   obtain ⟨t2,ht2⟩ : ∃ t2,Po.taxA ++ r.cat = t2 := ⟨_,rfl⟩
   have hadd1 : ∀ u,(Op.stringOp .add ⟨#[110,101,116,47]⟩ r.cat).run Tryz.prog u = .ok (.string t1) u := fun u => by
    rw [← ht1]
    exact text_add Po.netA r.cat (by have := HCk.out; have : Po.netA.size = 4 := rfl; omega) u
   have hadd2 : ∀ u,(Op.stringOp .add ⟨#[116,97,120,47]⟩ r.cat).run Tryz.prog u = .ok (.string t2) u := fun u => by
    rw [← ht2]
    exact text_add Po.taxA r.cat (by have := HCk.out; have : Po.taxA.size = 4 := rfl; omega) u
   have HRw : Hid (Po.rowsOf r = [⟨t1,-r.net⟩,⟨t2,-r.tax⟩]) := Lib.hid (by unfold Po.rowsOf; rw [ht1,ht2])
   clear ht1 ht2 hbW HO
   go_wp2_with fail
   clear hadd1 hadd2 hW a0 a1 a2 a3 r0 r1 r2 r3
   go_loopw [4,8,9,10,43] (fun t _ _ _ i wr => ∃ (j : Nat) (uo : Option Addr) (uq uc : Nat),j ≤ 2 ∧ i = .int .i64 j ∧ t = .slice uo uq uc ∧ Hid (Below U.heap.size U wr) ∧ Hid (Ba.Own wr U.heap.size (.slice uo uq uc) (Po.entrL G (ps.take k) ++ (Po.rowsOf r).take j)) ∧ Hid ((1 ≤ j → Mn.err (-r.net) = 0) ∧ (2 ≤ j → Mn.err (-r.tax) = 0))) (fun _ _ _ _ i _ => 2 - (intOf i).toNat)
   case atStart => exact ⟨0,vo,q,vc,by omega,rfl,rfl,HBW,HOW,Lib.hid ⟨fun h => by omega,fun h => by omega⟩⟩
   case round =>
    clear HBW HOW HB
    rename World => wy
    obtain ⟨j,uo,uq,uc,hj,rfl,rfl,HB,HO,HJ⟩ := hrel
    have HLe := Lib.hid (rows_take G ps r k j)
    rcases (show j = 0 ∨ j = 1 ∨ j = 2 by omega) with rfl | rfl | rfl
    ·
     have hix := index_0 (.string t1) (.int .i64 r.net) (.string t2) (.int .i64 r.tax)
     obtain ⟨Z,hZ,hbZ,hC⟩ := Ba.boxed1 wy ⟨t1,r.net⟩
     have HBZ := Lib.hid (bchain HB.out hbZ)
     have HOZ := Lib.hid (Ba.own_below HO.out hbZ)
     have hsz2 : U.heap.size ≤ Z.heap.size := HBZ.out.size
     unfold Ba.C at hC
     obtain ⟨d0,d1⟩ := hC
     simp only at hZ d0 d1
     clear hbZ
     go_wp2_with fail
     refine (subZ r.net _ HSh.out.2.2.1).mono ?_
     rintro e w3 ⟨rfl,hw3⟩
     have hw4 := hw3.symm
     clear hw3
     subst hw4
     clear hZ
     unfold both
     rcases Mn.err_two (-r.net) with e1 | e1
     ·
      rw [e1,Mn.amt_fit (Iv_err_z e1)]
      have HE1 := Lib.hid e1
      clear e1
      go_wp2_with (at_builtin; go_must (refine Ba.wpList_append _ rfl (.tmp 55) (.tmp 60) rfl U.heap.size (.slice uo uq uc) (Po.entrL G (ps.take k) ++ (Po.rowsOf r).take 0) rfl (Ba.own_alloc HOZ.out _) (some ⟨Z.heap.size,0,none⟩) 1 1 [⟨t1,-r.net⟩] rfl rfl (fun h => by cases h) (Ba.seg_block (heap_alloc_new Z _)) (by have := HLe.out; omega) (by simp; omega) ?_))
      intro v3 w5 o3 gr3 _
      have HB3 : Hid (Below U.heap.size U w5) := Lib.hid ((below_box HBZ.out _).grown gr3 (by simp; omega) (Ba.own_ge HOZ.out))
      obtain ⟨xa,xq,xc,hx1⟩ := own_slice o3
      subst hx1
      have HO3 : Hid (Ba.Own w5 U.heap.size (.slice xa xq xc) (Po.entrL G (ps.take k) ++ (Po.rowsOf r).take (0 + 1))) := Lib.hid (by
       have e : Po.entrL G (ps.take k) ++ (Po.rowsOf r).take (0 + 1) = Po.entrL G (ps.take k) ++ (Po.rowsOf r).take 0 ++ [⟨t1,-r.net⟩] := by
        rw [HRw.out]
        simp
       rw [e]
       first | exact o3 | (rw [List.append_assoc]; exact o3) | simpa using o3)
      clear gr3 o3 hsz2 d0 d1
      go_wp2_with fail
      go_roundw
      case rel => exact ⟨0 + 1,xa,xq,xc,by omega,rfl,rfl,HB3,HO3,Lib.hid ⟨fun _ => HE1.out,fun h => by omega⟩⟩
      case measure => simp [intOf]
     ·
      have HP := Lib.hid (Po.entr_bad G HMm.out (Po.bad_yes (.inl (by rw [e1]; omega))))
      rw [e1]
      clear e1
      go_wp2_with fail
      go_ret2
      exact ⟨_,by rw [HP.out.1]; rfl,by rw [HP.out.2]; exact Ba.own_nil _ _,bchain HBU.out HBZ.out⟩
    ·
     have hix := index_1 (.string t1) (.int .i64 r.net) (.string t2) (.int .i64 r.tax)
     obtain ⟨Z,hZ,hbZ,hC⟩ := Ba.boxed1 wy ⟨t2,r.tax⟩
     have HBZ := Lib.hid (bchain HB.out hbZ)
     have HOZ := Lib.hid (Ba.own_below HO.out hbZ)
     have hsz2 : U.heap.size ≤ Z.heap.size := HBZ.out.size
     unfold Ba.C at hC
     obtain ⟨d0,d1⟩ := hC
     simp only at hZ d0 d1
     clear hbZ
     go_wp2_with fail
     refine (subZ r.tax _ HSh.out.2.2.2).mono ?_
     rintro e w3 ⟨rfl,hw3⟩
     have hw4 := hw3.symm
     clear hw3
     subst hw4
     clear hZ
     unfold both
     rcases Mn.err_two (-r.tax) with e1 | e1
     ·
      rw [e1,Mn.amt_fit (Iv_err_z e1)]
      have HE1 := Lib.hid e1
      clear e1
      go_wp2_with (at_builtin; go_must (refine Ba.wpList_append _ rfl (.tmp 55) (.tmp 60) rfl U.heap.size (.slice uo uq uc) (Po.entrL G (ps.take k) ++ (Po.rowsOf r).take 1) rfl (Ba.own_alloc HOZ.out _) (some ⟨Z.heap.size,0,none⟩) 1 1 [⟨t2,-r.tax⟩] rfl rfl (fun h => by cases h) (Ba.seg_block (heap_alloc_new Z _)) (by have := HLe.out; omega) (by simp; omega) ?_))
      intro v3 w5 o3 gr3 _
      have HB3 : Hid (Below U.heap.size U w5) := Lib.hid ((below_box HBZ.out _).grown gr3 (by simp; omega) (Ba.own_ge HOZ.out))
      obtain ⟨xa,xq,xc,hx1⟩ := own_slice o3
      subst hx1
      have HO3 : Hid (Ba.Own w5 U.heap.size (.slice xa xq xc) (Po.entrL G (ps.take k) ++ (Po.rowsOf r).take (1 + 1))) := Lib.hid (by
       have e : Po.entrL G (ps.take k) ++ (Po.rowsOf r).take (1 + 1) = Po.entrL G (ps.take k) ++ (Po.rowsOf r).take 1 ++ [⟨t2,-r.tax⟩] := by
        rw [HRw.out]
        simp
       rw [e]
       first | exact o3 | (rw [List.append_assoc]; exact o3) | simpa using o3)
      clear gr3 o3 hsz2 d0 d1
      go_wp2_with fail
      go_roundw
      case rel => exact ⟨1 + 1,xa,xq,xc,by omega,rfl,rfl,HB3,HO3,Lib.hid ⟨fun _ => HJ.out.1 (by omega),fun _ => HE1.out⟩⟩
      case measure => simp [intOf]
     ·
      have HP := Lib.hid (Po.entr_bad G HMm.out (Po.bad_yes (.inr (by rw [e1]; omega))))
      rw [e1]
      clear e1
      go_wp2_with fail
      go_ret2
      exact ⟨_,by rw [HP.out.1]; rfl,by rw [HP.out.2]; exact Ba.own_nil _ _,bchain HBU.out HBZ.out⟩
    ·
     have HE1 := HJ.out.1 (by omega)
     have HE2 := HJ.out.2 (by omega)
     have HBd := Lib.hid (Po.bad_no HE1 HE2)
     have HKn : Hid (∀ x ∈ ps.take (k + 1),Po.badE x = false) := Lib.hid (by
      rw [HTk.out]
      intro x hx
      rcases List.mem_append.1 hx with hx | hx
      · exact HK.out x hx
      ·
       obtain rfl := List.mem_singleton.1 hx
       exact HBd.out)
     have HO3 : Hid (Ba.Own wy U.heap.size (.slice uo uq uc) (Po.entrL G (ps.take (k + 1)))) := Lib.hid (by rw [HSt.out]; exact HO.out)
     clear HE1 HE2 HJ HLe
     go_wp2_with fail
     go_roundw
     case rel => exact ⟨k + 1,uo,uq,uc,by omega,by go_num,rfl,HB,HO3,HKn⟩
     case measure => simp [intOf]; omega
  ·
   obtain rfl : k = p := by omega
   have HTk : Hid (ps.take k = ps) := Lib.hid (List.take_of_length_le (by rw [HLn.out]; exact Nat.le_refl _))
   have HP := Lib.hid (Po.entr_ok G (fun x hx => HK.out x (by rw [HTk.out]; exact hx)))
   go_wp2_with fail
   go_ret2
   refine ⟨.slice vo q vc,by rw [HP.out.1]; rfl,?_,bchain HBU.out HB.out⟩
   rw [HP.out.2]
   have ho := HO.out
   rw [HTk.out] at ho
   exact Ba.own_mono ho HBU.out.size
end Go.Proofs.YtillcleccjgocaaGreat
namespace Go.Proofs.YtillcleccjgocaaGreat
theorem Po.enter_short {c : ByteArray} {n : Int} {M : List Ba.T} (hc : c.size ≤ 140737488355328) (hs : ∀ r ∈ M,Ba.Short r) (he : Po.enterE c n M = 0) : ∀ r ∈ Po.enter c n M,Ba.Short r := by
 intro r hr
 unfold Po.enter at hr
 rcases List.mem_or_eq_of_mem_set hr with hr | rfl
 · exact Po.ins_short hc hs r hr
 · exact ⟨(Po.part_short hc hs).1,Iv_err_0 he⟩
theorem Po.goL_short : ∀ (ls M : List Ba.T),(∀ x ∈ ls,Ba.Short x) → (∀ r ∈ M,Ba.Short r) → Po.goE ls M = 0 → ∀ r ∈ Po.goL ls M,Ba.Short r
 | [],_,_,hp,_ => hp
 | x :: l,M,hl,hp,he => by
  rw [Po.goE] at he
  by_cases h2 : Po.enterE x.acct x.amt M = 0
  ·
   rw [h2,if_neg (by simp)] at he
   exact Po.goL_short l _ (fun z hz => hl z (by simp [hz])) (Po.enter_short (hl x (by simp)).1 hp h2) he
  ·
   rw [if_pos h2] at he
   omega
theorem Po.entL_short {bs ls : List Ba.T} (hb : ∀ r ∈ bs,Ba.Short r) (hl : ∀ x ∈ ls,Ba.Short x) : ∀ r ∈ Po.entL bs ls,Ba.Short r := by
 unfold Po.entL
 split
 ·
  rename_i h
  unfold Po.entE at h
  split at h
  · omega
  · exact Po.goL_short ls bs hl hb h
 ·
  intro r hr
  cases hr
theorem Po.entrR_short {g : Int} {ps : List Pt.T} (hg : Fit g) (hs : ∀ x ∈ ps,Pt.Short x) (hc : ∀ x ∈ ps,x.cat.size ≤ 140737488351232) : ∀ r ∈ Po.entrR g ps,Ba.Short r := by
 unfold Po.entrR
 split
 ·
  rename_i h
  refine entr_short hg hs hc fun x hx => ?_
  unfold Po.entrE at h
  split at h
  · omega
  ·
   rename_i h2
   cases hb : Po.badE x with
   | false => rfl
   | true => exact absurd (List.any_eq_true.2 ⟨x,hx,hb⟩) h2
 ·
  intro r hr
  cases hr
end Go.Proofs.YtillcleccjgocaaGreat
namespace Go.Proofs.YtillcleccjgocaaGreat
open Go.RowKit
open Mem
open Go.Sort (grow)
theorem Po.entrL_len (g : Int) : ∀ ps : List Pt.T,(Po.entrL g ps).length = 1 + 2 * ps.length
 | [] => rfl
 | p :: l => by
  have := Po.entrL_len g l
  unfold Po.entrL at this ⊢
  rw [List.flatMap_cons,List.length_cons,List.length_append]
  rw [List.length_cons] at this
  show 2 + _ + 1 = _
  rw [List.length_cons]
  omega
end Go.Proofs.YtillcleccjgocaaGreat
namespace Go.Proofs.YtillcleccjgocaaGreat.Pt
open Go.RowKit
open Mem
theorem Block.put {w : World} {g : Nat} {M : List T} (h : Block w g M) (k p : Nat) (hk : k < M.length) (hp : p < 4) (x : Value) (r : T) (hr : rv r = (rv M[k]).set p x) : Block (w.setCell ⟨g,k * 4 + p,none⟩ x) g (M.set k r) := by
 have h1 := heap_setCell_same _ g (k * 4 + p) _ _ x h
 unfold Block
 rw [h1,flat_put r p x hp M k hk hr]
 simp only [List.setIfInBounds_toArray]
theorem Block.far {w : World} {g b : Nat} {M : List T} (h : Block w g M) (hne : g ≠ b) (o : Nat) (x : Value) : Block (w.setCell ⟨b,o,none⟩ x) g M := by
 unfold Block
 rw [heap_setCell_other w ⟨b,o,none⟩ g x hne]
 exact h
end Go.Proofs.YtillcleccjgocaaGreat.Pt
namespace Go.Proofs.YtillcleccjgocaaGreat
open Go.RowKit
open Mem
theorem inv_clone (rs : List Pt.T) (ao : Option Addr) (n cap : Nat) (w : World) (hR : Pt.Ls w ao n cap rs) (hn : n ≤ 1000) :
  Calls Tryz.prog 156 #[.slice ao n cap] w fun e w' => e = .returned (.slice (some ⟨w.heap.size,0,none⟩) n n) ∧ Pt.Block w' w.heap.size rs ∧ Below w.heap.size w w' := by
 have HR := Lib.hid hR
 have hcap := hR.reach
 have hfit := hR.fits
 have hmk := Pt.make n (by omega)
 have hblk0 := Pt.block_made w n
 have hbel0 : Below w.heap.size w (w.alloc (.cells (Pt.zeros n) 134)) := (Below.refl _ _).alloc (Nat.le_refl _) _
 obtain ⟨W1,hcp,hblk,hbel,hsz⟩ := Pt.copy (w.alloc (.cells (Pt.zeros n) 134)) w.heap.size [] n ao n cap rs (by rw [List.append_nil]; exact hblk0) hR.len ((hR.below hbel0).seg)
 rw [List.length_nil,Nat.add_zero] at hcp
 rw [List.append_nil] at hblk
 have HB1 := Lib.hid (hbel _ _ hbel0 (Nat.le_refl _))
 have HBk := Lib.hid hblk
 clear hblk hbel hblk0 hbel0 hR
 go_enter Tryz.func156,Tryz.ntmps156
 go_wp2
 go_ret
 exact ⟨rfl,HBk.out,HB1.out⟩
theorem sub0 (x : Int) (w : World) (hx : Fit x) : Calls Tryz.prog 122 #[.int .i64 0,.int .i64 x] w fun e w' => e = both (Mn.amt (-x)) (Mn.err (-x)) ∧ w' = w := by
 have h := sub_any 0 x w (by decide) hx
 rw [Int.zero_sub] at h
 exact h
def TurnE (n : Nat) (v : Nat → Int) (W : Nat → World) (e : Ending) (w' : World) : Prop :=
 ((∀ k,k < n → Mn.err (-(v k)) = 0) ∧ e = .returned (.int .i64 0) ∧ w' = W n) ∨ (∃ k,k < n ∧ Mn.err (-(v k)) ≠ 0 ∧ e = .returned (.int .i64 7) ∧ w' = W k)
set_option maxHeartbeats 2000000 in
theorem inv_turn (vb g n : Nat) (o : Nat → Nat) (v : Nat → Int) (W : Nat → World) (hn : n ≤ 3)
  (hp : ∀ k,k < n → (W k).cell? ⟨vb,k,none⟩ = some (.pointer (some ⟨g,o k,none⟩))) (hc : ∀ k,k < n → (W k).cell? ⟨g,o k,none⟩ = some (.int .i64 (v k))) (hf : ∀ k,k < n → (W k).frozen? ⟨g,o k,none⟩ = false)
  (hs : ∀ k,k < n → (W k).setCell ⟨g,o k,none⟩ (.int .i64 (-(v k))) = W (k + 1)) (hv : ∀ k,k < n → Fit (v k)) :
  Calls Tryz.prog 157 #[.slice (some ⟨vb,0,none⟩) n n] (W 0) (TurnE n v W) := by
 have HP := Lib.hid hp
 have HC := Lib.hid hc
 have HF := Lib.hid hf
 have HS := Lib.hid hs
 have HV := Lib.hid hv
 clear hp hc hf hs hv
 go_enter Tryz.func157,Tryz.ntmps157
 go_wp2_with fail
 go_loopw [4,5,6,9] (fun _ _ _ i wr => ∃ k : Nat,k ≤ n ∧ i = .int .i64 k ∧ wr = W k ∧ Hid (∀ j,j < k → Mn.err (-(v j)) = 0)) (fun _ _ _ i _ => n - (intOf i).toNat)
 case atStart => exact ⟨0,by omega,rfl,rfl,Lib.hid fun j hj => by omega⟩
 case round =>
  obtain ⟨k,hk,rfl,hwr,HE⟩ := hrel
  by_cases hlt : k < n
  ·
   have h1 := HP.out k hlt
   have h2 := HC.out k hlt
   have h3 := HF.out k hlt
   have HS1 := Lib.hid (HS.out k hlt)
   have HV1 := Lib.hid (HV.out k hlt)
   rw [← hwr] at h1 h2 h3 HS1
   have HWr := Lib.hid hwr
   obtain ⟨x,hx⟩ : ∃ x,v k = x := ⟨_,rfl⟩
   obtain ⟨p,hop⟩ : ∃ p,o k = p := ⟨_,rfl⟩
   have HX := Lib.hid hx
   rw [hx] at h2 HS1 HV1
   rw [hop] at h1 h2 h3 HS1
   clear hwr hx hop
   go_wp2_with fail
   refine (sub0 x _ HV1.out).mono ?_
   rintro e w1 ⟨rfl,hw1⟩
   subst hw1
   unfold both
   rcases Mn.err_two (-x) with e1 | e1
   ·
    have HE1 := Lib.hid e1
    rw [e1,Mn.amt_fit (Iv.err_0 e1)]
    clear e1
    go_wp2_with fail
    go_roundw
    case rel =>
     refine ⟨k + 1,by omega,by go_num,HS1.out,Lib.hid fun j hj => ?_⟩
     by_cases e : j < k
     · exact HE.out j e
     ·
      obtain rfl : j = k := by omega
      rw [HX.out]
      exact HE1.out
    case measure => simp [intOf]; omega
   ·
    have HE1 := Lib.hid e1
    rw [e1]
    clear e1
    go_wp2_with fail
    go_ret
    exact .inr ⟨k,hlt,by rw [HX.out,HE1.out]; omega,rfl,HWr.out⟩
  ·
   obtain rfl : k = n := by omega
   have HWr := Lib.hid hwr
   clear hwr
   go_wp2_with fail
   go_ret
   exact .inl ⟨HE.out,rfl,HWr.out⟩
end Go.Proofs.YtillcleccjgocaaGreat
namespace Go.Proofs.YtillcleccjgocaaGreat
open Go.RowKit
open Mem
structure UpdI (X w' : World) (g : Nat) : Prop where
 bel : ∀ B w0,Below B w0 X → B ≤ g → Below B w0 w'
 blk : ∀ i,i ≠ g → w'.heap[i]? = X.heap[i]?
theorem UpdI.refl (X : World) (g : Nat) : UpdI X X g := ⟨fun _ _ h _ => h,fun _ _ => rfl⟩
theorem UpdI.set {X w' : World} {g : Nat} (h : UpdI X w' g) (o : Nat) (x : Value) : UpdI X (w'.setCell ⟨g,o,none⟩ x) g :=
 ⟨fun B w0 hb hg => (h.bel B w0 hb hg).setCell hg x,fun i hi => (heap_setCell_other w' ⟨g,o,none⟩ i x hi).trans (h.blk i hi)⟩
theorem UpdI.at {X w' : World} {g i : Nat} (h : UpdI X w' g) (hi : i ≠ g) {n t s : Int} {v : Value} (a : Tt.At X i n t s v) : Tt.At w' i n t s v := (h.blk i hi).trans a
theorem UpdI.block {X w' : World} {g i : Nat} (h : UpdI X w' g) (hi : i ≠ g) {M : List Pt.T} (a : Pt.Block X i M) : Pt.Block w' i M := (h.blk i hi).trans a
theorem turn3 (X : World) (h vb : Nat) (a b c : Int) (v : Value) (hA : Tt.At X h a b c v) (hP : X.heap[vb]? = some (.cells #[.pointer (some ⟨h,0,none⟩),.pointer (some ⟨h,1,none⟩),.pointer (some ⟨h,2,none⟩)] 222 (0,0))) (hne : vb ≠ h) (ha : Fit a) (hb : Fit b) (hc : Fit c) :
  Calls Tryz.prog 157 #[.slice (some ⟨vb,0,none⟩) 3 3] X fun e w' => UpdI X w' h ∧ ((Mn.err (-a) = 0 ∧ Mn.err (-b) = 0 ∧ Mn.err (-c) = 0 ∧ e = .returned (.int .i64 0) ∧ Tt.At w' h (-a) (-b) (-c) v) ∨ ((Mn.err (-a) ≠ 0 ∨ Mn.err (-b) ≠ 0 ∨ Mn.err (-c) ≠ 0) ∧ e = .returned (.int .i64 7))) := by
 have hA1 := hA.set0 (-a)
 have hA2 := hA1.set1 (-b)
 have hA3 := hA2.set2 (-c)
 have hU1 := (UpdI.refl X h).set 0 (.int .i64 (-a))
 have hU2 := hU1.set 1 (.int .i64 (-b))
 have hU3 := hU2.set 2 (.int .i64 (-c))
 obtain ⟨X1,hX1⟩ : ∃ X1,X.setCell ⟨h,0,none⟩ (.int .i64 (-a)) = X1 := ⟨_,rfl⟩
 rw [hX1] at hA1 hA2 hA3 hU1 hU2 hU3
 obtain ⟨X2,hX2⟩ : ∃ X2,X1.setCell ⟨h,1,none⟩ (.int .i64 (-b)) = X2 := ⟨_,rfl⟩
 rw [hX2] at hA2 hA3 hU2 hU3
 obtain ⟨X3,hX3⟩ : ∃ X3,X2.setCell ⟨h,2,none⟩ (.int .i64 (-c)) = X3 := ⟨_,rfl⟩
 rw [hX3] at hA3 hU3
 have hP1 := (hU1.blk vb hne).trans hP
 have hP2 := (hU2.blk vb hne).trans hP
 refine (inv_turn vb h 3 (fun k => k) (fun k => [a,b,c].getD k 0) (fun k => [X,X1,X2,X3].getD k X3) (Nat.le_refl _) ?_ ?_ ?_ ?_ ?_).mono ?_
 ·
  intro k hk
  match k,hk with
  | 0,_ => exact (cell_of_row X vb _ _ _ _ hP).trans rfl
  | 1,_ => exact (cell_of_row X1 vb _ _ _ _ hP1).trans rfl
  | 2,_ => exact (cell_of_row X2 vb _ _ _ _ hP2).trans rfl
 ·
  intro k hk
  match k,hk with
  | 0,_ => exact hA.cells.1
  | 1,_ => exact hA1.cells.2.1
  | 2,_ => exact hA2.cells.2.2.1
 ·
  intro k hk
  match k,hk with
  | 0,_ => exact hA.frozen 0
  | 1,_ => exact hA1.frozen 1
  | 2,_ => exact hA2.frozen 2
 ·
  intro k hk
  match k,hk with
  | 0,_ => exact hX1
  | 1,_ => exact hX2
  | 2,_ => exact hX3
 ·
  intro k hk
  match k,hk with
  | 0,_ => exact ha
  | 1,_ => exact hb
  | 2,_ => exact hc
 ·
  rintro e w' (⟨h1,h2,h3⟩ | ⟨k,hk,h1,h2,h3⟩)
  ·
   subst h3
   exact ⟨hU3,.inl ⟨h1 0 (by omega),h1 1 (by omega),h1 2 (by omega),h2,hA3⟩⟩
  ·
   match k,hk with
   | 0,_ => exact ⟨h3 ▸ UpdI.refl X h,.inr ⟨.inl h1,h2⟩⟩
   | 1,_ => exact ⟨h3 ▸ hU1,.inr ⟨.inr (.inl h1),h2⟩⟩
   | 2,_ => exact ⟨h3 ▸ hU2,.inr ⟨.inr (.inr h1),h2⟩⟩
theorem turn2 (X : World) (g vb k : Nat) (M : List Pt.T) (r : Pt.T) (hk : k < M.length) (hr : M[k] = r) (hB : Pt.Block X g M) (hP : X.heap[vb]? = some (.cells #[.pointer (some ⟨g,k * 4 + 2,none⟩),.pointer (some ⟨g,k * 4 + 3,none⟩)] 222 (0,0))) (hne : vb ≠ g) (ha : Fit r.net) (hb : Fit r.tax) :
  Calls Tryz.prog 157 #[.slice (some ⟨vb,0,none⟩) 2 2] X fun e w' => UpdI X w' g ∧ ((Iv.badP r = false ∧ e = .returned (.int .i64 0) ∧ Pt.Block w' g (M.set k (Iv.negP r))) ∨ (Iv.badP r = true ∧ e = .returned (.int .i64 7))) := by
 have hB1 := hB.put k 2 hk (by omega) (.int .i64 (-r.net)) ⟨r.cat,r.bp,-r.net,r.tax⟩ (by rw [hr]; rfl)
 have hk1 : k < (M.set k ⟨r.cat,r.bp,-r.net,r.tax⟩).length := by rw [List.length_set]; exact hk
 have hr1 : (M.set k ⟨r.cat,r.bp,-r.net,r.tax⟩)[k] = ⟨r.cat,r.bp,-r.net,r.tax⟩ := List.getElem_set_self ..
 have hB2 := hB1.put k 3 hk1 (by omega) (.int .i64 (-r.tax)) (Iv.negP r) (by rw [hr1]; rfl)
 rw [List.set_set] at hB2
 have hU1 := (UpdI.refl X g).set (k * 4 + 2) (.int .i64 (-r.net))
 have hU2 := hU1.set (k * 4 + 3) (.int .i64 (-r.tax))
 obtain ⟨X1,hX1⟩ : ∃ X1,X.setCell ⟨g,k * 4 + 2,none⟩ (.int .i64 (-r.net)) = X1 := ⟨_,rfl⟩
 rw [hX1] at hB1 hB2 hU1 hU2
 obtain ⟨X2,hX2⟩ : ∃ X2,X1.setCell ⟨g,k * 4 + 3,none⟩ (.int .i64 (-r.tax)) = X2 := ⟨_,rfl⟩
 rw [hX2] at hB2 hU2
 have hP1 := (hU1.blk vb hne).trans hP
 have hrow0 := hB.row k hk
 have hrow1 := hB1.row k hk1
 rw [hr] at hrow0
 rw [hr1] at hrow1
 refine (inv_turn vb g 2 (fun j => k * 4 + 2 + j) (fun j => [r.net,r.tax].getD j 0) (fun j => [X,X1,X2].getD j X2) (by omega) ?_ ?_ ?_ ?_ ?_).mono ?_
 ·
  intro j hj
  match j,hj with
  | 0,_ => exact (cell_of_row X vb _ _ _ _ hP).trans rfl
  | 1,_ => exact (cell_of_row X1 vb _ _ _ _ hP1).trans rfl
 ·
  intro j hj
  match j,hj with
  | 0,_ => exact hrow0.3
  | 1,_ => exact hrow1.4
 ·
  intro j hj
  match j,hj with
  | 0,_ => exact hB.frozen _
  | 1,_ => exact hB1.frozen _
 ·
  intro j hj
  match j,hj with
  | 0,_ => exact hX1
  | 1,_ => exact hX2
 ·
  intro j hj
  match j,hj with
  | 0,_ => exact ha
  | 1,_ => exact hb
 ·
  rintro e w' (⟨h1,h2,h3⟩ | ⟨j,hj,h1,h2,h3⟩)
  ·
   subst h3
   exact ⟨hU2,.inl ⟨Iv.bad_no (h1 0 (by omega)) (h1 1 (by omega)),h2,hB2⟩⟩
  ·
   match j,hj with
   | 0,_ => exact ⟨h3 ▸ UpdI.refl X g,.inr ⟨Iv.bad_yes (.inl h1),h2⟩⟩
   | 1,_ => exact ⟨h3 ▸ hU1,.inr ⟨Iv.bad_yes (.inr h1),h2⟩⟩
def Iv.mixN (ps : List Pt.T) (k : Nat) : List Pt.T := (ps.take k).map Iv.negP ++ ps.drop k
theorem Iv.mixN_len (ps : List Pt.T) (k : Nat) : (Iv.mixN ps k).length = ps.length := by
 unfold Iv.mixN
 rw [List.length_append,List.length_map,List.length_take,List.length_drop]
 omega
theorem Iv.mixN_at (ps : List Pt.T) (k : Nat) (h : k < ps.length) : (Iv.mixN ps k)[k]'(by rw [Iv.mixN_len]; exact h) = ps[k] := by
 have h1 : (Iv.mixN ps k)[k]? = some ps[k] := by
  unfold Iv.mixN
  rw [List.getElem?_append_right (by rw [List.length_map,List.length_take]; omega),List.length_map,List.length_take,Nat.min_eq_left (by omega),Nat.sub_self,List.getElem?_drop,Nat.add_zero,List.getElem?_eq_getElem h]
 exact Option.some.inj ((List.getElem?_eq_getElem _).symm.trans h1)
theorem Iv.mixN_set (ps : List Pt.T) (k : Nat) (h : k < ps.length) : (Iv.mixN ps k).set k (Iv.negP ps[k]) = Iv.mixN ps (k + 1) := by
 unfold Iv.mixN
 rw [List.set_append_right _ _ (by rw [List.length_map,List.length_take]; omega),List.length_map,List.length_take,Nat.min_eq_left (by omega),Nat.sub_self,List.drop_eq_getElem_cons h,List.set_cons_zero,List.take_succ_eq_append_getElem h,List.map_append]
 simp
structure KSt (w wr : World) (h g n : Nat) (t : Iv.Tot) (k : Nat) : Prop where
 hw : w.heap.size = h
 lo : h + 2 ≤ g
 bel : Below w.heap.size w wr
 tot : Tt.At wr h (-t.net) (-t.tax) (-t.gross) (.slice (some ⟨g,0,none⟩) n n)
 res : Tt.At wr (h + 1) 0 0 0 (.slice none 0 0)
 blk : Pt.Block wr g (Iv.mixN t.parts k)
 ok : ∀ r ∈ t.parts.take k,Iv.badP r = false
theorem KSt.below {w wr v : World} {h g n k : Nat} {t : Iv.Tot} (H : KSt w wr h g n t k) (b : Below wr.heap.size wr v) : KSt w v h g n t k :=
 ⟨H.hw,H.lo,bchain H.bel b,H.tot.below b,H.res.below b,H.blk.below b,H.ok⟩
set_option maxHeartbeats 4000000 in
theorem inv_back (t : Iv.Tot) (ao : Option Addr) (p cap : Nat) (w : World) (hL : Pt.Ls w ao p cap t.parts) (hn : Fit t.net) (ht : Fit t.tax) (hg : Fit t.gross) (hp : p ≤ 1000) :
  Calls Tryz.prog 120 #[Tt.val t.net t.tax t.gross (.slice ao p cap)] w (Tt.Ans w (Iv.backE t) (Iv.backT t)) := by
 have HL := Lib.hid hL
 have HLn := Lib.hid hL.len
 have HF := Lib.hid (And.intro hn (And.intro ht hg))
 clear hL hn ht hg
 have hb1 := Tt.below_own w t.net t.tax t.gross (.slice ao p cap)
 have hb2 := Tt.below_own (Tt.box w t.net t.tax t.gross (.slice ao p cap)) 0 0 0 (.slice none 0 0)
 have h1 := (Tt.at_box w t.net t.tax t.gross (.slice ao p cap)).below hb2
 have h2 := Tt.at_box (Tt.box w t.net t.tax t.gross (.slice ao p cap)) 0 0 0 (.slice none 0 0)
 rw [Tt.box_size] at h2
 obtain ⟨U,hU⟩ : ∃ U,Tt.box (Tt.box w t.net t.tax t.gross (.slice ao p cap)) 0 0 0 (.slice none 0 0) = U := ⟨_,rfl⟩
 rw [hU] at h1 h2 hb2
 have HB := Lib.hid (bchain hb1 hb2)
 have HA1 := Lib.hid h1
 have HA2 := Lib.hid h2
 have HUs : Hid ((w.alloc (.cells #[.int .i64 t.net,.int .i64 t.tax,.int .i64 t.gross,.slice ao p cap] 98)).alloc (.cells #[.int .i64 0,.int .i64 0,.int .i64 0,.slice none 0 0] 98) = U) := Lib.hid hU
 obtain ⟨h,hh⟩ : ∃ h,w.heap.size = h := ⟨_,rfl⟩
 have HHw := Lib.hid hh
 rw [hh] at HA1 HA2
 clear hb1 hb2 h1 h2 hU
 unfold Tt.val
 go_enter Tryz.func120,Tryz.ntmps120
 go_wp2_with fail
 rw [HUs.out]
 clear HUs hh
 refine (inv_clone t.parts ao p cap _ (HL.out.below HB.out) hp).mono ?_
 rintro e w1 ⟨rfl,hB1,b1⟩
 obtain ⟨g,hgU⟩ : ∃ g,U.heap.size = g := ⟨_,rfl⟩
 rw [hgU] at hB1
 rw [hgU]
 have HGl : Hid (h + 2 ≤ g) := Lib.hid (by have := HA2.out.lt; omega)
 have HA1' := Lib.hid (HA1.out.below b1)
 have HS1 : Hid (Tt.At (w1.setCell ⟨h,3,none⟩ (.slice (some ⟨g,0,none⟩) p p)) h t.net t.tax t.gross (.slice (some ⟨g,0,none⟩) p p)) := Lib.hid (HA1'.out.set3 _)
 have HS2 : Hid (Tt.At (w1.setCell ⟨h,3,none⟩ (.slice (some ⟨g,0,none⟩) p p)) (h + 1) 0 0 0 (.slice none 0 0)) := Lib.hid ((HA2.out.below b1).far (by omega) _ _)
 have HS3 : Hid (Pt.Block (w1.setCell ⟨h,3,none⟩ (.slice (some ⟨g,0,none⟩) p p)) g t.parts) := Lib.hid (hB1.far (by have := HGl.out; omega) _ _)
 have HS4 : Hid (Below w.heap.size w (w1.setCell ⟨h,3,none⟩ (.slice (some ⟨g,0,none⟩) p p))) := Lib.hid (bset (bchain HB.out b1) (by have := HHw.out; omega) _ _)
 obtain ⟨t0,t1,t2,t3⟩ := HA1'.out.cells
 have f3 := HA1'.out.frozen 3
 obtain ⟨V,hV⟩ : ∃ V,w1.setCell ⟨h,3,none⟩ (.slice (some ⟨g,0,none⟩) p p) = V := ⟨_,rfl⟩
 rw [hV] at HS1 HS2 HS3 HS4
 clear hB1 b1 hgU HA1 HA2 HA1' HB
 go_wp2_with fail
 clear t0 t1 t2 t3 f3 hV
 have hbv : Below V.heap.size V (V.alloc (.cells #[.pointer (some ⟨h,0,none⟩),.pointer (some ⟨h,1,none⟩),.pointer (some ⟨h,2,none⟩)] 222)) := (Below.refl _ _).alloc (Nat.le_refl _) _
 refine (turn3 _ h V.heap.size t.net t.tax t.gross _ (HS1.out.below hbv) (heap_alloc_new V _) (Nat.ne_of_gt HS1.out.lt) HF.out.1 HF.out.2.1 HF.out.2.2).mono ?_
 rintro e w2 ⟨hU2,hcase⟩
 have HU2 : Hid (Below w.heap.size w w2 ∧ Tt.At w2 (h + 1) 0 0 0 (.slice none 0 0) ∧ Pt.Block w2 g t.parts) := Lib.hid ⟨hU2.bel _ _ (bchain HS4.out hbv) (by rw [HHw.out]; exact Nat.le_refl _),hU2.at (by omega) (HS2.out.below hbv),hU2.block (by have := HGl.out; omega) (HS3.out.below hbv)⟩
 clear hU2 hbv HS1 HS2 HS3 HS4
 rcases hcase with ⟨e1,e2,e3,rfl,hA⟩ | ⟨hbad,rfl⟩
 ·
  have HE := Lib.hid (And.intro e1 (And.intro e2 e3))
  have HK : Hid (KSt w w2 h g p t 0) := Lib.hid ⟨HHw.out,HGl.out,HU2.out.1,hA,HU2.out.2.1,HU2.out.2.2,by simp⟩
  clear e1 e2 e3 hA HU2
  obtain ⟨t0,t1,t2,t3⟩ := HK.out.tot.cells
  go_wp2_with fail
  clear t0 t1 t2 t3
  go_loopw [5,6,23] (fun _ _ i wr => ∃ k : Nat,k ≤ p ∧ i = .int .i64 k ∧ Hid (KSt w wr h g p t k)) (fun _ _ i _ => p - (intOf i).toNat)
  case atStart => exact ⟨0,by omega,rfl,HK⟩
  case round =>
   clear HK
   rename World => wz
   obtain ⟨k,hk,rfl,H⟩ := hrel
   by_cases hlt : k < p
   ·
    have hkp : k < t.parts.length := HLn.out ▸ hlt
    have hkm : k < (Iv.mixN t.parts k).length := by rw [Iv.mixN_len]; exact hkp
    have hrk := Iv.mixN_at t.parts k hkp
    have HSt := Lib.hid (Iv.mixN_set t.parts k hkp)
    have HTk := Lib.hid (List.take_succ_eq_append_getElem hkp)
    have HSh := Lib.hid (HL.out.short _ (List.getElem_mem hkp))
    have HMm : Hid (t.parts[k] ∈ t.parts) := Lib.hid (List.getElem_mem hkp)
    obtain ⟨r,hr⟩ : ∃ r,t.parts[k] = r := ⟨_,rfl⟩
    rw [hr] at hrk HSt HTk HSh HMm
    have HRk := Lib.hid hrk
    clear hr hrk
    obtain ⟨t0,t1,t2,t3⟩ := H.out.tot.cells
    have HTn : Hid (∀ X,Below wz.heap.size wz X → X.heap[wz.heap.size]? = some (.cells #[.pointer (some ⟨g,k * 4 + 2,none⟩),.pointer (some ⟨g,k * 4 + 3,none⟩)] 222 (0,0)) → Calls Tryz.prog 157 #[.slice (some ⟨wz.heap.size,0,none⟩) 2 2] X fun e w' => ∃ E : Int,e = .returned (.int .i64 E) ∧ ((E = 0 ∧ KSt w w' h g p t (k + 1)) ∨ (E = 7 ∧ Iv.badP r = true ∧ Below w.heap.size w w' ∧ Tt.At w' (h + 1) 0 0 0 (.slice none 0 0)))) := Lib.hid fun X hX ho => by
     have H1 := H.out.below hX
     have lo := H1.lo
     refine (turn2 _ g wz.heap.size k _ r hkm HRk.out H1.blk ho (Nat.ne_of_gt H.out.blk.lt) HSh.out.2.2.1 HSh.out.2.2.2).mono ?_
     rintro e w' ⟨hUp,⟨hb,he,hB⟩ | ⟨hb,he⟩⟩
     ·
      refine ⟨0,he,.inl ⟨rfl,H1.hw,H1.lo,hUp.bel _ _ H1.bel (by have := H1.hw; omega),hUp.at (by omega) H1.tot,hUp.at (by omega) H1.res,by rw [← HSt.out]; exact hB,?_⟩⟩
      rw [HTk.out]
      intro x hx
      rcases List.mem_append.1 hx with hx | hx
      · exact H1.ok x hx
      ·
       obtain rfl := List.mem_singleton.1 hx
       exact hb
     · exact ⟨7,he,.inr ⟨rfl,hb,hUp.bel _ _ H1.bel (by have := H1.hw; omega),hUp.at (by omega) H1.res⟩⟩
    clear HSt HTk HRk
    have hkp1 : k ≤ 1000 := by omega
    go_wp2_with fail
    go_cut [6] (fun e wx => ∃ E : Int,e = .int .i64 E ∧ Hid ((E = 0 ∧ KSt w wx h g p t (k + 1)) ∨ (E = 7 ∧ Iv.badP r = true ∧ Below w.heap.size w wx ∧ Tt.At wx (h + 1) 0 0 0 (.slice none 0 0))))
    case first =>
     go_region_with (go_at_call 157; refine (HTn.out _ (by first | exact (Below.refl _ _).alloc (Nat.le_refl _) _ | exact ((Below.refl _ _).alloc (Nat.le_refl _) _).drew) (by first | exact heap_alloc_new wz _)).mono ?_; rintro e u ⟨E,rfl,hcs⟩; have HCs := Lib.hid hcs; clear hcs)
     all_goals (try go_wp2_with fail)
     all_goals go_meet
     all_goals exact ⟨_,rfl,HCs⟩
    case rest =>
     clear HTn H t0 t1 t2 t3
     obtain ⟨E,rfl,HCs⟩ := hcut
     rcases HCs.out with ⟨rfl,hK⟩ | ⟨rfl,hbd⟩
     ·
      have H := Lib.hid hK
      clear hK
      go_wp2_with fail
      go_roundw
      case rel => exact ⟨k + 1,by omega,by go_num,H⟩
      case measure => simp [intOf]; omega
     ·
      have H := Lib.hid hbd
      clear hbd
      have HP := Lib.hid (Iv.back_part HE.out.1 HE.out.2.1 HE.out.2.2 HMm.out H.out.1)
      obtain ⟨z0,z1,z2,z3⟩ := H.out.2.2.cells
      have f0 := H.out.2.2.frozen 0
      have f1 := H.out.2.2.frozen 1
      have f2 := H.out.2.2.frozen 2
      have f3 := H.out.2.2.frozen 3
      go_wp2_with fail
      exact bodyPost_ret (v := .tuple #[Tt.val 0 0 0 (.slice none 0 0),.int .i64 7]) (by simp [results,Tt.val,Tryz.results120,go_sem,z0,z1,z2,z3]) rfl ⟨_,by rw [HP.out.1,HP.out.2]; rfl,by rw [HP.out.2]; exact Pt.own_nil _ _,bset (bset (bset (bset H.out.2.1 (by have := HHw.out; omega) _ _) (by have := HHw.out; omega) _ _) (by have := HHw.out; omega) _ _) (by have := HHw.out; omega) _ _⟩
   ·
    obtain rfl : k = p := by omega
    have HTk : Hid (t.parts.take k = t.parts) := Lib.hid (List.take_of_length_le (by rw [HLn.out]; exact Nat.le_refl _))
    have HP := Lib.hid (Iv.back_ok HE.out.1 HE.out.2.1 HE.out.2.2 (fun x hx => H.out.ok x (by rw [HTk.out]; exact hx)))
    obtain ⟨t0,t1,t2,t3⟩ := H.out.tot.cells
    obtain ⟨z0,z1,z2,z3⟩ := H.out.res.cells
    have f0 := H.out.res.frozen 0
    have f1 := H.out.res.frozen 1
    have f2 := H.out.res.frozen 2
    have f3 := H.out.res.frozen 3
    have HBe := Lib.hid (And.intro H.out.bel (And.intro H.out.hw H.out.lo))
    have HBk : Hid (Pt.Block wz g (t.parts.map Iv.negP)) := Lib.hid (by
     have hb := H.out.blk
     unfold Iv.mixN at hb
     rw [HTk.out,List.drop_eq_nil_of_le (Nat.le_of_eq HLn.out.symm),List.append_nil] at hb
     exact hb)
    go_wp2_with fail
    refine bodyPost_ret (v := .tuple #[Tt.val (-t.net) (-t.tax) (-t.gross) (.slice (some ⟨g,0,none⟩) k k),.int .i64 0]) (by simp [results,Tt.val,Tryz.results120,go_sem,z0,z1,z2,z3]) rfl ⟨.slice (some ⟨g,0,none⟩) k k,by rw [HP.out.1,HP.out.2]; rfl,?_,bset (bset (bset (bset HBe.out.1 (by have := HBe.out.2; omega) _ _) (by have := HBe.out.2; omega) _ _) (by have := HBe.out.2; omega) _ _) (by have := HBe.out.2; omega) _ _⟩
    rw [HP.out.2]
    have hlo := HBe.out.2.2
    have hb : Pt.Block _ g (t.parts.map Iv.negP) := ((((HBk.out.far (b := h + 1) (by omega) 0 (.int .i64 (-t.net))).far (b := h + 1) (by omega) 1 (.int .i64 (-t.tax))).far (b := h + 1) (by omega) 2 (.int .i64 (-t.gross))).far (b := h + 1) (by omega) 3 (.slice (some ⟨g,0,none⟩) k k))
    have ho : Pt.Own _ w.heap.size (.slice (some ⟨g,0,none⟩) k k) (t.parts.map Iv.negP) := Pt.own_of_block hb (by have := HBe.out.2; omega) (by rw [List.length_map]; exact HLn.out) (by omega)
    exact ho
 ·
  have HP := Lib.hid (Iv.back_head (t := t) hbad)
  clear hbad
  obtain ⟨z0,z1,z2,z3⟩ := HU2.out.2.1.cells
  have f0 := HU2.out.2.1.frozen 0
  have f1 := HU2.out.2.1.frozen 1
  have f2 := HU2.out.2.1.frozen 2
  have f3 := HU2.out.2.1.frozen 3
  go_wp2_with fail
  exact bodyPost_ret (v := .tuple #[Tt.val 0 0 0 (.slice none 0 0),.int .i64 7]) (by simp [results,Tt.val,Tryz.results120,go_sem,z0,z1,z2,z3]) rfl ⟨_,by rw [HP.out.1,HP.out.2]; rfl,by rw [HP.out.2]; exact Pt.own_nil _ _,bset (bset (bset (bset HU2.out.1 (by have := HHw.out; omega) _ _) (by have := HHw.out; omega) _ _) (by have := HHw.out; omega) _ _) (by have := HHw.out; omega) _ _⟩
end Go.Proofs.YtillcleccjgocaaGreat
namespace Go.Proofs.YtillcleccjgocaaGreat
open Go.RowKit
open Mem
open Go.Sort (grow)
theorem emptyB : ByteArray.empty.toList = [] := by decide +kernel
def Bl.undoE (p : Bl.Ps) (y m d : Int) : Int := if p.back = true ∨ ¬ Bl.Own p then 12 else if Dt.rightB y m d = false ∨ Dt.days y m d < Dt.days p.y p.m p.d then 9 else Iv.backE p.tot
def Bl.undoT (p : Bl.Ps) (y m d : Int) : Iv.Tot := if Bl.undoE p y m d = 0 then Iv.back p.tot else Iv.Tot.zero
theorem Bl.undo_go {p : Bl.Ps} {y m d : Int} (h : ¬ (p.back = true ∨ ¬ Bl.Own p)) (k : ¬ (Dt.rightB y m d = false ∨ Dt.days y m d < Dt.days p.y p.m p.d)) : Bl.undoE p y m d = Iv.backE p.tot ∧ Bl.undoT p y m d = Iv.backT p.tot := by
 have e : Bl.undoE p y m d = Iv.backE p.tot := by
  unfold Bl.undoE
  rw [if_neg h,if_neg k]
 exact ⟨e,by unfold Bl.undoT Iv.backT; rw [e]⟩
end Go.Proofs.YtillcleccjgocaaGreat
namespace Go.Proofs.YtillcleccjgocaaGreat
open Go.RowKit
open Mem
open Go.Sort (grow)
namespace Bl
def z0 : Sl := ⟨none,0,0⟩
theorem Lp.nils (P : Nat → Prop) (w : World) {x y : Int} (e : x = y) (hx : Fit y) : Lp P w ⟨z0,z0,z0,z0,z0,x⟩ ⟨[],[],[],[],[],y⟩ := by
 have h := lies_new w
 exact ⟨h.tab,h.ser,⟨[],Pd.ls_nil w,each_nil w,fun r hr => by cases hr⟩,h.book,h.sess,e,hx,inP_nil _ _,inP_nil _ _,inP_nil _ _,inP_nil _ _,inP_nil _ _⟩
section
variable {w u v : World} {hc : Sv}
end
section
variable {w u v : World} {hc : Sv} {s : St} {b1 k : Nat} {qs : List Pd.T}
end
end Bl
end Go.Proofs.YtillcleccjgocaaGreat
