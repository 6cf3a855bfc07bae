/- A SLICE OF BYTES THAT CAME IN. -/
import Derived.Test.YtagjbjppddbalaaZLb1
import Derived.Test.YtagjbjppddbalaaZLb3
namespace Go.Proofs.Ytagjbjppddbalaa.By
open Go.ChangeShapes Go.WideShapes Go.ChangeAt Go.RowKit
theorem cellsOf8 : Try.prog.cellsOf 5 = 1 := by kernel_rfl
theorem bytesOf8 : Try.prog.bytesOf 5 = 1 := by kernel_rfl
theorem list_in {H : Type} {enc : TypeId × Value → H} {W : World} {ao : Option Addr} {n cap : Nat} {d : DataW H} {p : List MemPlace} {ts : List TypeId} {ds : List (DataW H)} (j : Nat)
  (hj : DataW.Trod enc Try.prog W 0 (fun _ => true) true 25 (.slice ao n cap) d p)
  (hsz : (DataW.weightsEach Try.prog ts ds).all (· ≤ reachBytes) = true) (ht : ts[j]? = some 25) (hd : ds[j]? = some d) : ∃ bs,Ls W ao n cap bs ∧ n ≤ 140737488351232 := by
 obtain ⟨fuel,hf⟩ := hj
 rcases open_ints Try.underlying25 Try.underlying5 cellsOf8 hf with ⟨hcs,_⟩ | ⟨x,l,c,zs,hcs,_,hl,hm,hz,hx,hcell,hwz⟩
 ·
  simp [Value.cells] at hcs
  obtain ⟨rfl,rfl,rfl⟩ := hcs
  exact ⟨[],ls_nil W,by omega⟩
 ·
  simp [Value.cells] at hcs
  obtain ⟨rfl,rfl,rfl⟩ := hcs
  simp only [if_true] at hz
  have hd' := congrArg Prod.fst hx
  simp only at hd'
  rw [hd'] at hd
  have hr := sized_slice hsz ht hd Try.underlying25
  rw [bytesOf8] at hr
  simp only [lits,List.length_map,List.length_take,List.length_drop,reachBytes] at hr
  refine ⟨(zs.take n).map fun z => UInt8.ofNat z.toNat,⟨by simp; omega,hl,by omega,(fun h => by cases h),?_⟩,by omega⟩
  by_cases h0 : 0 < zs.length
  ·
   obtain ⟨b,off,rfl,hc⟩ := ints_at hcell h0
   refine .inr ⟨b,off,rfl,fun k hk => ?_⟩
   simp only [List.length_map,List.length_take] at hk
   have h1 := hc k (by omega)
   have hmem : zs[k]'(by omega) ∈ zs := List.getElem_mem _
   have hw := hwz _ hmem
   have hb : 0 ≤ zs[k]'(by omega) ∧ zs[k]'(by omega) ≤ 255 := by simpa [Lit.wf,IntKind.min,IntKind.max,IntKind.signed,IntKind.bits] using hw
   rw [h1]
   unfold bv
   simp only [List.getElem_map,List.getElem_take]
   rw [List.getD_eq_getElem?_getD,List.getElem?_eq_getElem (by omega)]
   simp only [Option.getD_some,UInt8.toNat_ofNat']
   congr 2
   omega
  ·
   refine .inl ?_
   have : zs = [] := List.length_eq_zero_iff.1 (by omega)
   simp [this]
end Go.Proofs.Ytagjbjppddbalaa.By
