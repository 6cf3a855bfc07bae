/- THE DOCUMENT's OWN DISK: what a crash makes of one row. -/
import Derived.Test.YtegniklofhopeaaYDpDrF
import Derived.Test.YtegniklofhopeaaZDp3
import Derived.Test.YtegniklofhopeaaYDpDkU
set_option maxRecDepth 100000
set_option linter.unusedVariables false
namespace Go.Proofs.Ytegniklofhopeaa
open Go.RowKit
open Mem Dk
section
variable {Q : Nat → Prop} {W : World} {p : Nat} {D0 : D} {v : Sl} {rs : List Rq.T}
theorem Dr.torn_row (a : Dr.At Q W p D0 v rs) {i : Nat} (hi : i < D0.fs.length) :
  ∃ (g kp bn : Nat) (bo : Option Addr) (bc : Nat),v.ao = some ⟨g,0,none⟩ ∧ i < v.n ∧ v.n ≤ v.cap ∧ v.cap ≤ 9223372036854775807 ∧ D0.fs[i].kept = kp ∧ D0.fs[i].bs.length = bn ∧ kp ≤ bn ∧ bn ≤ 4194304 ∧ By.Ls W bo bn bc D0.fs[i].bs ∧
   (∀ u,Below W.heap.size W u → u.cell? ⟨p,0,none⟩ = some (.slice (some ⟨g,0,none⟩) v.n v.cap) ∧ u.cell? ⟨g,i * 3 + 1,none⟩ = some (.slice bo bn bc) ∧ u.cell? ⟨g,i * 3 + 2,none⟩ = some (.int .i64 (kp : Int)) ∧ u.frozen? ⟨g,i * 3 + 1,none⟩ = false ∧ u.frozen? ⟨g,i * 3 + 2,none⟩ = false ∧ p < u.heap.size ∧ g < u.heap.size ∧ g ≠ p) ∧
   ∀ (y : World) (xa : Option Addr) (xn xc q e : Nat) (bs : List UInt8),Below W.heap.size W y → By.Own y W.heap.size (.slice xa xn xc) bs → bs.length = e → tear D0.fs[i] q = ⟨D0.fs[i].name,bs,e⟩ → Dr.Dsk (nw Q W) ((y.setCell ⟨g,i * 3 + 1,none⟩ (.slice xa xn xc)).setCell ⟨g,i * 3 + 2,none⟩ (.int .i64 (e : Int))) p ⟨D0.fs.set i (tear D0.fs[i] q),D0.off,D0.left⟩ ∧ UpdQ Q W ((y.setCell ⟨g,i * 3 + 1,none⟩ (.slice xa xn xc)).setCell ⟨g,i * 3 + 2,none⟩ (.int .i64 (e : Int))) := by
 have hm := List.getElem_mem hi
 obtain ⟨hh,hown⟩ := own_eq a.ok.sorted hm rfl
 have hsp := one_name a.ok.sorted hi rfl
 obtain ⟨g,r,hg,hkn,⟨q0,q1,q2⟩,hf,hkp,hL,hln,hOwn,hbl,hgl,hgp⟩ := a.cells hh
 rw [hown] at hkp hL hln
 rw [← hsp] at hkn q1 q2
 obtain ⟨d0,d1,d2⟩ := a.box.cells
 rw [hg] at d0
 have hvn := a.n
 have hpl := a.box.lt
 have h1 := a.ok.kept _ hm
 have h2 := total_mem hm
 have h3 := a.ok.room
 refine ⟨g,_,_,r.bytes.ao,r.bytes.cap,hg,hkn,hvn.2.1,hvn.2.2.1,rfl,rfl,h1,by omega,by rw [← hln]; exact hL,fun u b => ⟨((bcell b).1 _ _ hpl).trans d0,?_,?_,((bcell b).2 _ _ hgl).trans (hf _),((bcell b).2 _ _ hgl).trans (hf _),Nat.lt_of_lt_of_le hpl b.size,Nat.lt_of_lt_of_le hgl b.size,hgp⟩,fun y xa xn xc q e bs b o he ht => ?_⟩
 ·
  rw [← hln]
  exact ((bcell b).1 _ _ hgl).trans q1
 ·
  rw [← hkp]
  exact ((bcell b).1 _ _ hgl).trans q2
 ·
  have hput : put ⟨D0.fs[i].name,bs,e⟩ D0.fs = D0.fs.set i (tear D0.fs[i] q) := by
   have e1 := Dr.put_at (f := ⟨D0.fs[i].name,bs,e⟩) hh
   have e2 : Dk.spot D0.fs[i].name D0.fs = i := hsp.symm
   simp only [e2] at e1
   rw [e1,ht]
  have hok := tear_ok a.ok hi q
  rw [← hput] at hok
  obtain ⟨a5,u5⟩ := a.two hh hg b (x := ⟨xa,xn,xc⟩) (kp := e) (By.own_mono o (Nat.zero_le _)) (fun c ec => by
   have := By.own_ge o c ec
   exact ⟨.inr this,by omega,by omega⟩) hok
  rw [← hsp,hput] at a5
  rw [← hsp] at u5
  exact ⟨a5,u5⟩
theorem Dk.pick_yes {zs : List Int} {i q : Nat} (h : zs[i]? = some (q : Int)) : pick zs i = q := by
 unfold pick
 rw [h]
 rfl
theorem Dk.pick_no {zs : List Int} {i : Nat} {z : Int} (h : zs[i]? = some z) (hz : z ≤ 0) : pick zs i = 0 := by
 unfold pick
 rw [h]
 show z.toNat = 0
 omega
theorem Dk.pick_out {zs : List Int} {i : Nat} (h : zs.length ≤ i) : pick zs i = 0 := by
 unfold pick
 rw [List.getElem?_eq_none h]
 rfl
theorem Dr.start (h : Dr.At Q W p D0 v rs) : Dr.At Q ((W.setCell ⟨p,2,none⟩ (.bool false)).setCell ⟨p,1,none⟩ (.int .i64 (-1))) p ⟨D0.fs,false,-1⟩ v rs ∧ UpdQ Q W ((W.setCell ⟨p,2,none⟩ (.bool false)).setCell ⟨p,1,none⟩ (.int .i64 (-1))) :=
 ⟨(h.setOff false).setLeft ⟨by omega,by omega⟩,(UpdQ.set (Q := Q) W h.pp _ _).trans (UpdQ.set (Q := Q) _ h.pp _ _)⟩
end
end Go.Proofs.Ytegniklofhopeaa
