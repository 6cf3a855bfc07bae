/- api.Letter: one that came in, its texts no longer than its bulk. (By genlrup.py.) -/
import Derived.Test.YtagjbjppddbalaaRows
import Derived.Test.YtagjbjppddbalaaZLt4
set_option maxRecDepth 100000
set_option linter.unusedVariables false
namespace Go.Proofs.Ytagjbjppddbalaa.Et
open Go.ChangeShapes Go.WideShapes Go.ChangeAt Go.RowKit
theorem bulk_mem {H : Type} : ∀ (l : List (DataW H)) (x : DataW H),x ∈ l → Rows.uptoBulk x ≤ Rows.uptoBulkAll l
 | a :: l,x,h => by
  simp only [Rows.uptoBulkAll]
  rcases List.mem_cons.1 h with rfl | h
  · omega
  ·
   have := bulk_mem l x h
   omega
theorem list_upto {H : Type} {enc : TypeId × Value → H} {W : World} {ao : Option Addr} {n cap : Nat} {d : DataW H} {p : List MemPlace} {ts : List TypeId} {ds : List (DataW H)} (j : Nat)
  (hj : DataW.Trod enc Try.prog W 0 (fun _ => true) true 22 (.slice ao n cap) d p)
  (hsz : (DataW.weightsEach Try.prog ts ds).all (· ≤ reachBytes) = true) (ht : ts[j]? = some 22) (hd : ds[j]? = some d) : ∃ rs,Ls W ao n cap rs ∧ ∀ r ∈ rs,r.data.size ≤ Rows.uptoBulk d := by
 haveI : Inhabited T := ⟨zero⟩
 obtain ⟨fuel,hf⟩ := hj
 rcases Go.Deep.open_slice Try.underlying22 hf with ⟨hcs,_⟩ | ⟨a,len,c,m,k,D,Pl,hcs,_,hl,hm,hmm,hx,hel⟩
 ·
  simp [Value.cells] at hcs
  obtain ⟨rfl,rfl,rfl⟩ := hcs
  exact ⟨[],ls_nil W,by simp⟩
 ·
  simp [Value.cells] at hcs
  obtain ⟨rfl,rfl,rfl⟩ := hcs
  simp only [if_true] at hmm
  subst hmm
  obtain ⟨R,hR⟩ := Go.Deep.choose_lt (α := T) (n := m) (p := fun i r => AtA W (a.add (i * 3)) r ∧ D i = datum H r ∧ Fit r.term ∧ Fit r.mem) (fun i hi => by
   obtain ⟨cs',h1,h2⟩ := hel i hi
   rw [cellsOf] at h1
   obtain ⟨_,_,hcell⟩ := World.cells?_some h1
   obtain ⟨r,e,hx',f⟩ := open_cells h2
   subst e
   exact ⟨r,fun p hp => hcell p hp,hx',f⟩)
  have hd' := congrArg Prod.fst hx
  simp only at hd'
  rw [hd'] at hd
  have hall : ∀ r ∈ (List.range n).map R,Short r ∧ r.data.size ≤ Rows.uptoBulk d := by
   intro r hr
   obtain ⟨i,hi,rfl⟩ := List.mem_map.1 hr
   rw [List.mem_range] at hi
   obtain ⟨_,hDi,hf0,hf1⟩ := hR i (by omega)
   have hq_data : (R i).data.size ≤ 140737488351232 := by
    have hw := List.all_eq_true.1 hsz _ (DataW.weights_mem_each ht hd (txt (R i).data).length (by
     rw [DataW.weights,Try.underlying22]
     refine List.mem_cons_of_mem _ (List.mem_append.2 (.inl (weights_all (weights_data (R i)) _ ?_)))
     rw [← hDi]
     exact List.mem_map.2 ⟨i,List.mem_range.2 hi,rfl⟩))
    rw [decide_eq_true_eq,txt_len] at hw
    unfold reachBytes at hw
    omega
   have hs_data : (R i).data.size ≤ 140737488355328 := Nat.le_trans hq_data (by omega)
   have hu : (R i).data.size ≤ Rows.uptoBulk d := by
    have h1 := bulk_mem ((List.range n).map D) (D i) (List.mem_map.2 ⟨i,List.mem_range.2 hi,rfl⟩)
    rw [hDi] at h1
    have h2 : (txt (R i).data).length ≤ Rows.uptoBulk (datum H (R i)) := by
     unfold datum
     simp only [Rows.uptoBulk,Rows.uptoBulkAll]
     omega
    rw [txt_len] at h2
    rw [hd']
    simp only [Rows.uptoBulk]
    omega
   exact ⟨⟨hf0,hf1,hs_data⟩,hu⟩
  refine ⟨(List.range n).map R,⟨by simp,hl,hm,(fun h => by cases h),?_,fun r hr => (hall r hr).1⟩,fun r hr => (hall r hr).2⟩
  ·
   by_cases h0 : 0 < n
   ·
    obtain ⟨b,off,spot⟩ := a
    have h1 := (hR 0 (by omega)).1 0 (by omega)
    have hspot : spot = none := by
     have h2 : W.cell? ((Addr.mk b off spot).add 0) = some (.int .i64 (R 0).term) := by
      rw [show (Addr.mk b off spot).add 0 = ((Addr.mk b off spot).add (0 * 3)).add 0 by simp [Addr.add]]
      exact h1
     simpa [Addr.add] using World.cell?_spot h2
    subst hspot
    refine .inr ⟨b,off,rfl,fun k hk => ?_⟩
    simp only [List.length_map,List.length_range] at hk
    have hcell : ∀ p,p < 3 → W.cell? ⟨b,off + k * 3 + p,none⟩ = (rv (R k))[p]? := by
     intro p hp
     rw [← (hR k (by omega)).1 p hp,Go.WideShapes.add_plain,Go.WideShapes.add_plain]
    simp only [List.getElem_map,List.getElem_range]
    exact ⟨hcell 0 (by omega),hcell 1 (by omega),hcell 2 (by omega)⟩
   · exact .inl (by rw [show n = 0 by omega]; rfl)
end Go.Proofs.Ytagjbjppddbalaa.Et
namespace Go.Proofs.Ytagjbjppddbalaa.Lr
open Go.ChangeShapes Go.WideShapes Go.ChangeAt Go.RowKit
theorem one_upto {H : Type} {enc : TypeId × Value → H} {W : World} {b0 : Nat} {rr : Reach} {v : Value} {d : DataW H} {p : List MemPlace} {ts : List TypeId} {ds : List (DataW H)} (j : Nat)
  (hv : Value.okWide Try.prog W rr b0 24 v) (h : DataW.Trod enc Try.prog W 0 (fun _ => true) true 24 v d p)
  (hsz : (DataW.weightsEach Try.prog ts ds).all (· ≤ reachBytes) = true) (ht : ts[j]? = some 24) (hd : ds[j]? = some d) : ∃ r : T,v = val r ∧ Short r ∧ (∃ es,Et.Ls W r.ents.ao r.ents.n r.ents.cap es ∧ ∀ x ∈ es,x.data.size ≤ Rows.uptoBulk d) ∧ r.data.size ≤ Rows.uptoBulk d := by
 obtain ⟨cs,rfl,hc⟩ := okWide_struct Try.underlying24 hv
 obtain ⟨fuel,hf⟩ := h
 obtain ⟨r,d_ents,p_ents,e,hx,l_ents,f_kind,f_frm,f_to,f_term,f_idx,f_bt,f_com,f_mem,f_off,f_size⟩ := open_cells hf
 have hd' : d = datum H r d_ents := hx
 subst hd'
 have hs_data : r.data.size ≤ 140737488355328 := by
  have hw := List.all_eq_true.1 hsz _ (DataW.weights_mem_each ht hd _ (weights_data r d_ents))
  rw [decide_eq_true_eq,txt_len] at hw
  unfold reachBytes at hw
  omega
 have hz_ents : (DataW.weightsEach Try.prog [22] [d_ents]).all (· ≤ reachBytes) = true := by
  refine List.all_eq_true.2 fun k hk => ?_
  refine List.all_eq_true.1 hsz k (DataW.weights_mem_each ht hd k (weights_dents r d_ents k ?_))
  simpa [DataW.weightsEach] using hk
 have hbd : (txt r.data).length ≤ Rows.uptoBulk (datum H r d_ents) ∧ Rows.uptoBulk d_ents ≤ Rows.uptoBulk (datum H r d_ents) := by
  unfold datum
  simp only [Rows.uptoBulk,Rows.uptoBulkAll]
  omega
 have hdd : r.data.size ≤ Rows.uptoBulk (datum H r d_ents) := by
  have := hbd.1
  rw [txt_len] at this
  exact this
 obtain ⟨es,hes1,hes2⟩ := Et.list_upto 0 l_ents hz_ents rfl rfl
 have hes : ∃ es,Et.Ls W r.ents.ao r.ents.n r.ents.cap es ∧ ∀ x ∈ es,x.data.size ≤ Rows.uptoBulk (datum H r d_ents) := ⟨es,hes1,fun x hx => Nat.le_trans (hes2 x hx) hbd.2⟩
 refine ⟨r,?_,⟨f_kind,f_frm,f_to,f_term,f_idx,f_bt,f_com,f_mem,f_off,f_size,hs_data⟩,hes,hdd⟩
 have e' : cs.toList = rv r := e
 unfold val
 congr 1
 apply Array.toList_inj.1
 rw [e']
 rfl
end Go.Proofs.Ytagjbjppddbalaa.Lr
namespace Go.Proofs.Ytagjbjppddbalaa
theorem u8_in {a : Int} (h : (Lit.int .u8 a).wf = true) : 0 ≤ a ∧ a ≤ 255 := by
 simpa [Lit.wf,IntKind.min,IntKind.max,IntKind.signed,IntKind.bits] using h
end Go.Proofs.Ytagjbjppddbalaa
