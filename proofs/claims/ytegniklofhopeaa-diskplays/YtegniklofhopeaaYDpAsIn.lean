/- impostlaw16.Ask: ROWS THAT CAME IN: a slice of them; each has slices of its own. (By genas.py.) -/
import Derived.Test.YtegniklofhopeaaZDp1
import Derived.Test.YtegniklofhopeaaYDpAsA
import Derived.Test.YtegniklofhopeaaYDpByIn
import Derived.Test.YtegniklofhopeaaZDp2
import Derived.Deep.Slices
import Derived.SizedLaws
namespace Go.Proofs.Ytegniklofhopeaa.As
open Go.ChangeShapes Go.WideShapes Go.ChangeAt Go.RowKit Mem
set_option maxRecDepth 100000
set_option linter.unusedVariables false
theorem cellsOf : Try.prog.cellsOf 30 = 6 := by kernel_rfl
def datum (H : Type) (r : T) (d_data d_picks : DataW H) : DataW H := .agg [.lit (.int .i64 r.kind),.lit (.int .i64 r.n),.lit (.string (txt r.name)),.lit (.string (txt r.to)),d_data,d_picks]
theorem open_cells {H : Type} {enc : TypeId × Value → H} {w : World} {base : Nat} {spare : Nat → Bool} {held : Bool} {fuel : Nat} {cs : List Value} {x : DataW H × List MemPlace}
  (h : DataW.trod enc Try.prog w base spare held fuel 30 cs = some x) : ∃ (r : T) (d_data : DataW H) (p_data : List MemPlace) (d_picks : DataW H) (p_picks : List MemPlace),cs = rv r ∧ x.1 = datum H r d_data d_picks ∧ DataW.Trod enc Try.prog w base spare held 27 (.slice r.data.ao r.data.n r.data.cap) d_data p_data ∧ DataW.Trod enc Try.prog w base spare held 28 (.slice r.picks.ao r.picks.n r.picks.cap) d_picks p_picks ∧ Fit r.kind ∧ Fit r.n := by
 obtain ⟨xs,n,_,rfl,hl,hxl,hf⟩ := DataW.trod_struct Try.underlying30 h
 rw [cellsOf] at hl
 match cs,hl with
 | [v0,v1,v2,v3,v4,v5],_ =>
  match xs,hxl with
  | [y0,y1,y2,y3,y4,y5],_ =>
   have g0 : DataW.trod enc Try.prog w base spare held n 3 (List.take (Try.prog.cellsOf 3) (List.drop 0 [v0,v1,v2,v3,v4,v5])) = some y0 := hf 0 _ rfl
   rw [show Try.prog.cellsOf 3 = 1 by kernel_rfl] at g0
   simp only [List.drop,List.take] at g0
   have g1 : DataW.trod enc Try.prog w base spare held n 3 (List.take (Try.prog.cellsOf 3) (List.drop 1 [v0,v1,v2,v3,v4,v5])) = some y1 := hf 1 _ rfl
   rw [show Try.prog.cellsOf 3 = 1 by kernel_rfl] at g1
   simp only [List.drop,List.take] at g1
   have g2 : DataW.trod enc Try.prog w base spare held n 9 (List.take (Try.prog.cellsOf 9) (List.drop 2 [v0,v1,v2,v3,v4,v5])) = some y2 := hf 2 _ rfl
   rw [show Try.prog.cellsOf 9 = 1 by kernel_rfl] at g2
   simp only [List.drop,List.take] at g2
   have g3 : DataW.trod enc Try.prog w base spare held n 9 (List.take (Try.prog.cellsOf 9) (List.drop 3 [v0,v1,v2,v3,v4,v5])) = some y3 := hf 3 _ rfl
   rw [show Try.prog.cellsOf 9 = 1 by kernel_rfl] at g3
   simp only [List.drop,List.take] at g3
   have g4 : DataW.trod enc Try.prog w base spare held n 27 (List.take (Try.prog.cellsOf 27) (List.drop 4 [v0,v1,v2,v3,v4,v5])) = some y4 := hf 4 _ rfl
   rw [show Try.prog.cellsOf 27 = 1 by kernel_rfl] at g4
   simp only [List.drop,List.take] at g4
   have g5 : DataW.trod enc Try.prog w base spare held n 28 (List.take (Try.prog.cellsOf 28) (List.drop 5 [v0,v1,v2,v3,v4,v5])) = some y5 := hf 5 _ rfl
   rw [show Try.prog.cellsOf 28 = 1 by kernel_rfl] at g5
   simp only [List.drop,List.take] at g5
   obtain ⟨x0,e0,rfl,w0⟩ := DataW.trod_int Try.underlying3 g0
   obtain ⟨x1,e1,rfl,w1⟩ := DataW.trod_int Try.underlying3 g1
   obtain ⟨x2,e2,rfl,_⟩ := DataW.trod_string Try.underlying9 g2
   obtain ⟨x3,e3,rfl,_⟩ := DataW.trod_string Try.underlying9 g3
   obtain ⟨ao4,nn4,cap4,e4⟩ : ∃ ao nn cap,[v4] = [Value.slice ao nn cap] := by
    rcases Go.Deep.open_slice Try.underlying27 g4 with ⟨hcs,_⟩ | ⟨a,len,c,_,_,_,_,hcs,_⟩
    · exact ⟨_,_,_,hcs⟩
    · exact ⟨_,_,_,hcs⟩
   obtain ⟨ao5,nn5,cap5,e5⟩ : ∃ ao nn cap,[v5] = [Value.slice ao nn cap] := by
    rcases Go.Deep.open_slice Try.underlying28 g5 with ⟨hcs,_⟩ | ⟨a,len,c,_,_,_,_,hcs,_⟩
    · exact ⟨_,_,_,hcs⟩
    · exact ⟨_,_,_,hcs⟩
   simp only [List.cons.injEq,and_true] at e0 e1 e2 e3 e4 e5
   subst e0 e1 e2 e3 e4 e5
   exact ⟨⟨x0,x1,x2,x3,⟨ao4,nn4,cap4⟩,⟨ao5,nn5,cap5⟩⟩,y4.1,y4.2,y5.1,y5.2,rfl,rfl,⟨n,g4⟩,⟨n,g5⟩,fit_in w0,fit_in w1⟩
theorem weights_name {H : Type} (r : T) (d_data d_picks : DataW H) : (txt r.name).length ∈ (datum H r d_data d_picks).weights Try.prog 30 := by
 unfold datum
 simp [DataW.weights,DataW.weightsEach,Try.underlying30]
theorem weights_to {H : Type} (r : T) (d_data d_picks : DataW H) : (txt r.to).length ∈ (datum H r d_data d_picks).weights Try.prog 30 := by
 unfold datum
 simp [DataW.weights,DataW.weightsEach,Try.underlying30]
theorem weights_ddata {H : Type} (r : T) (d_data d_picks : DataW H) (k : Nat) (h : k ∈ d_data.weights Try.prog 27) : k ∈ (datum H r d_data d_picks).weights Try.prog 30 := by
 unfold datum
 simp [DataW.weights,DataW.weightsEach,Try.underlying30,h]
theorem weights_dpicks {H : Type} (r : T) (d_data d_picks : DataW H) (k : Nat) (h : k ∈ d_picks.weights Try.prog 28) : k ∈ (datum H r d_data d_picks).weights Try.prog 30 := by
 unfold datum
 simp [DataW.weights,DataW.weightsEach,Try.underlying30,h]
def Sub (W : World) (r : T) : Prop := (∃ bs,By.Ls W r.data.ao r.data.n r.data.cap bs ∧ r.data.n ≤ 140737488351232) ∧ (∃ zs,Ints W r.picks.ao r.picks.n r.picks.cap zs)
theorem weights_all {H : Type} {P : Program} {e : TypeId} {d : DataW H} {n : Nat} (hn : n ∈ d.weights P e) : ∀ (l : List (DataW H)),d ∈ l → n ∈ DataW.weightsAll P e l
 | a :: l,h => by
  rw [DataW.weightsAll,List.mem_append]
  rcases List.mem_cons.1 h with rfl | h
  · exact .inl hn
  · exact .inr (weights_all hn l h)
def AtA (w : World) (a : Addr) (r : T) : Prop := ∀ p,p < 6 → w.cell? (a.add p) = (rv r)[p]?
theorem list_in {H : Type} {enc : TypeId × Value → H} {W : World} {ao : Option Addr} {n cap : Nat} {d : DataW H} {p : List MemPlace} {ts : List TypeId} {ds : List (DataW H)} (j : Nat)
  (hj : DataW.Trod enc Try.prog W 0 (fun _ => true) true 22 (.slice ao n cap) d p)
  (hsz : (DataW.weightsEach Try.prog ts ds).all (· ≤ reachBytes) = true) (ht : ts[j]? = some 22) (hd : ds[j]? = some d) : ∃ rs,Ls W ao n cap rs ∧ ∀ r ∈ rs,Sub W r := by
 haveI : Inhabited T := ⟨zero⟩
 obtain ⟨fuel,hf⟩ := hj
 rcases Go.Deep.open_slice Try.underlying22 hf with ⟨hcs,_⟩ | ⟨a,len,c,m,k,D,Pl,hcs,_,hl,hm,hmm,hx,hel⟩
 ·
  simp [Value.cells] at hcs
  obtain ⟨rfl,rfl,rfl⟩ := hcs
  exact ⟨[],ls_nil W,by simp⟩
 ·
  simp [Value.cells] at hcs
  obtain ⟨rfl,rfl,rfl⟩ := hcs
  simp only [if_true] at hmm
  subst hmm
  obtain ⟨R,hR⟩ := Go.Deep.choose_lt (α := T) (n := m) (p := fun i r => AtA W (a.add (i * 6)) r ∧ (∃ (d_data : DataW H) (p_data : List MemPlace) (d_picks : DataW H) (p_picks : List MemPlace),D i = datum H r d_data d_picks ∧ DataW.Trod enc Try.prog W 0 (fun _ => true) true 27 (.slice r.data.ao r.data.n r.data.cap) d_data p_data ∧ DataW.Trod enc Try.prog W 0 (fun _ => true) true 28 (.slice r.picks.ao r.picks.n r.picks.cap) d_picks p_picks) ∧ Fit r.kind ∧ Fit r.n) (fun i hi => by
   obtain ⟨cs',h1,h2⟩ := hel i hi
   rw [cellsOf] at h1
   obtain ⟨_,_,hcell⟩ := World.cells?_some h1
   obtain ⟨r,d_data,p_data,d_picks,p_picks,e,hx',l_data,l_picks,f⟩ := open_cells h2
   subst e
   exact ⟨r,fun p hp => hcell p hp,⟨d_data,p_data,d_picks,p_picks,hx',l_data,l_picks⟩,f⟩)
  have hd' := congrArg Prod.fst hx
  simp only at hd'
  rw [hd'] at hd
  have hin : ∀ i,i < n → ∀ d_data d_picks,D i = datum H (R i) d_data d_picks → ∀ k,k ∈ (datum H (R i) d_data d_picks).weights Try.prog 30 → decide (k ≤ reachBytes) = true := by
   intro i hi d_data d_picks hDi k hk
   refine List.all_eq_true.1 hsz k (DataW.weights_mem_each ht hd k ?_)
   rw [DataW.weights,Try.underlying22]
   refine List.mem_cons_of_mem _ (List.mem_append.2 (.inl (weights_all hk _ ?_)))
   rw [← hDi]
   exact List.mem_map.2 ⟨i,List.mem_range.2 hi,rfl⟩
  have hall : ∀ r ∈ (List.range n).map R,Short r ∧ Sub W r := by
   intro r hr
   obtain ⟨i,hi,rfl⟩ := List.mem_map.1 hr
   rw [List.mem_range] at hi
   obtain ⟨_,⟨d_data,p_data,d_picks,p_picks,hDi,l_data,l_picks⟩,f_kind,f_n⟩ := hR i (by omega)
   have hs_name : (R i).name.size ≤ 140737488355328 := by
    have hw := hin i hi d_data d_picks hDi _ (weights_name (R i) d_data d_picks)
    rw [decide_eq_true_eq,txt_len] at hw
    unfold reachBytes at hw
    omega
   have hs_to : (R i).to.size ≤ 140737488355328 := by
    have hw := hin i hi d_data d_picks hDi _ (weights_to (R i) d_data d_picks)
    rw [decide_eq_true_eq,txt_len] at hw
    unfold reachBytes at hw
    omega
   have hz_data : (DataW.weightsEach Try.prog [27] [d_data]).all (· ≤ reachBytes) = true := by
    refine List.all_eq_true.2 fun k hk => ?_
    refine hin i hi d_data d_picks hDi k (weights_ddata (R i) d_data d_picks k ?_)
    simpa [DataW.weightsEach] using hk
   have hz_picks : (DataW.weightsEach Try.prog [28] [d_picks]).all (· ≤ reachBytes) = true := by
    refine List.all_eq_true.2 fun k hk => ?_
    refine hin i hi d_data d_picks hDi k (weights_dpicks (R i) d_data d_picks k ?_)
    simpa [DataW.weightsEach] using hk
   exact ⟨⟨f_kind,f_n,hs_name,hs_to⟩,By.list_in 0 l_data hz_data rfl rfl,ints_in 0 l_picks hz_picks rfl rfl⟩
  refine ⟨(List.range n).map R,⟨by simp,hl,hm,(fun h => by cases h),?_,fun r hr => (hall r hr).1⟩,fun r hr => (hall r hr).2⟩
  ·
   by_cases h0 : 0 < n
   ·
    obtain ⟨b,off,spot⟩ := a
    have h1 := (hR 0 (by omega)).1 0 (by omega)
    have hspot : spot = none := by
     have h2 : W.cell? ((Addr.mk b off spot).add 0) = some (.int .i64 (R 0).kind) := by
      rw [show (Addr.mk b off spot).add 0 = ((Addr.mk b off spot).add (0 * 6)).add 0 by simp [Addr.add]]
      exact h1
     simpa [Addr.add] using World.cell?_spot h2
    subst hspot
    refine .inr ⟨b,off,rfl,fun k hk => ?_⟩
    simp only [List.length_map,List.length_range] at hk
    have hcell : ∀ p,p < 6 → W.cell? ⟨b,off + k * 6 + p,none⟩ = (rv (R k))[p]? := by
     intro p hp
     rw [← (hR k (by omega)).1 p hp,Go.WideShapes.add_plain,Go.WideShapes.add_plain]
    simp only [List.getElem_map,List.getElem_range]
    exact ⟨hcell 0 (by omega),hcell 1 (by omega),hcell 2 (by omega),hcell 3 (by omega),hcell 4 (by omega),hcell 5 (by omega)⟩
   · exact .inl (by rw [show n = 0 by omega]; rfl)
end Go.Proofs.Ytegniklofhopeaa.As
