import Derived.Deep.RegionHeld3
import Derived.Laws.CopyOwn
import Derived.Laws.MakeOwn
import Derived.Lib.QuietBelow
import Derived.Laws.RangeAny
import Derived.Deep.RegionLaw
import Derived.Deep.DeepCutAuto
import Derived.Deep.CutBlock
import Derived.Test.YtillcleccjgocaaGreatZIr1
import Derived.Test.YtillcleccjgocaaGreatZIr2
import Derived.Test.YtillcleccjgocaaGreatZIr3
import Derived.Test.YtillcleccjgocaaGreatZIr4
set_option maxRecDepth 100000
set_option linter.unusedVariables false
namespace Go.Proofs.YtillcleccjgocaaGreat
open Go.RowKit
open Mem Pk Cm
theorem Upd.row {w u : World} {p q : Nat} (h : Upd w p u) (hq : w.heap.size ≤ q) (vs : Array Value) : Upd w p (u.setRow q vs) := by
 have e : ∀ b,b < w.heap.size → (u.setRow q vs).heap[b]? = u.heap[b]? := fun b hb => setRow_other u q b vs (by omega)
 refine ⟨by simpa [World.setRow] using h.size,fun b r hb hp => ?_,fun b r hb => ?_,fun w0 a c => below_setRow (h.below w0 a c) (Nat.le_trans a.size hq) vs,fun b hb hp => (e b hb).trans (h.block b hb hp)⟩
 · rw [World.cell?_of_block (e b hb),h.cell b r hb hp]
 · rw [World.frozen?_of_block (e b hb),h.frozen b r hb]
theorem Rd.row {u : World} {p q n cap : Nat} {ao : Option Addr} {bs : List UInt8} {s : St} (h : Rd u p ao n cap bs s) (k : Off p q n ao) (vs : Array Value) : Rd (u.setRow q vs) p ao n cap bs s := by
 have hb : (u.setRow q vs).heap[p]? = u.heap[p]? := setRow_other u q p vs (fun e => k.ne e.symm)
 refine ⟨(World.cell?_of_block hb).trans h.c0,(World.cell?_of_block hb).trans h.c1,(World.cell?_of_block hb).trans h.c2,fun o => (World.frozen?_of_block hb).trans (h.fz o),⟨h.ls.len,h.ls.fits,h.ls.reach,h.ls.nil,?_⟩,h.apart,h.place⟩
 rcases h.ls.seg with e | ⟨b,off,e,hc⟩
 · exact .inl e
 ·
  refine .inr ⟨b,off,e,fun i hi => ?_⟩
  have hn : 0 < n := by rw [h.ls.len]; omega
  exact (World.cell?_of_block (setRow_other u q b vs (k.bytes hn b off e))).trans (hc i hi)
theorem Im.text_64 (bs : List UInt8) (s : St) : (rText bs 64 s).1.size ≤ 64 := by
 have h := Im.count_most bs 64 s
 have h2 := rCount_pos bs 64 s
 have e : (rText bs 64 s).1.size = ((bs.take ((rCount bs 64 s).2.at' + (rCount bs 64 s).1.toNat)).drop (rCount bs 64 s).2.at').length := by
  have q : ∀ l : List UInt8,(str l).size = l.length := fun l => by
   have : txt (str l) = l := rfl
   unfold txt at this
   rw [← this,Array.length_toList]
   rfl
  exact q _
 rw [e,List.length_drop,List.length_take]
 rcases h with h | h <;> omega
theorem Im.parts_short (bs : List UInt8) : ∀ (k : Nat) (s : St),∀ x ∈ (Im.rItems (Im.rPart bs) k s).1,Pt.Short x
 | 0,_,x,hx => by cases hx
 | k + 1,s,x,hx => by
  rw [Im.rItems] at hx
  rcases List.mem_cons.1 hx with rfl | hx
  · exact ⟨by have := Im.text_64 bs s; show (rText bs 64 s).1.size ≤ _; omega,rNum_fit _ _,rNum_fit _ _,⟨by show (-9223372036854775808 : Int) ≤ 0; omega,by show (0 : Int) ≤ _; omega⟩⟩
  · exact Im.parts_short bs k _ x hx
set_option maxHeartbeats 4000000 in
theorem ird_posted (p : Nat) (ao : Option Addr) (n cap : Nat) (bs : List UInt8) (s : St) (w : World) (hR : Rd w p ao n cap bs s) :
  Calls Tryz.prog 49 #[.pointer (some ⟨p,0,none⟩)] w fun e w' => ∃ r : Pd.T,e = .returned (Pd.val r) ∧ Bl.IsP w' r (Im.rPost bs s).1 ∧ InA (w.heap.size + 2) r.parts.ao r.parts.n ∧ Pt.Own w' (w.heap.size + 2) (Bl.sl r.parts) (Im.rPost bs s).1.tot.parts ∧ Rd w' p ao n cap bs (Im.rPost bs s).2 ∧ Upd w p w' := by
 have HX0 := Lib.hid (Rx.start hR #[.string ⟨#[]⟩,.int .i64 0,.int .i64 0,.int .i64 0,.int .i64 0,.int .i64 0,.int .i64 0,.int .i64 0,.slice none 0 0,.string ⟨#[]⟩,.int .i64 0,.bool false] 100)
 have hlt := cell_lt hR.c0
 have hnp : w.heap.size ≠ p := by omega
 have hnp1 : w.heap.size + 1 ≠ p := by omega
 obtain ⟨U,hU⟩ : ∃ U,(w.alloc (.cells #[.string ⟨#[]⟩,.int .i64 0,.int .i64 0,.int .i64 0,.int .i64 0,.int .i64 0,.int .i64 0,.int .i64 0,.slice none 0 0,.string ⟨#[]⟩,.int .i64 0,.bool false] 100)).alloc (.cells #[.string ⟨#[]⟩,.int .i64 0,.int .i64 0,.int .i64 0,.int .i64 0,.int .i64 0,.int .i64 0,.int .i64 0,.slice none 0 0,.string ⟨#[]⟩,.int .i64 0,.bool false] 100) = U := ⟨_,rfl⟩
 rw [hU] at HX0
 clear hR
 go_enter Tryz.func49,Tryz.ntmps49
 go_wp2_with fail
 clear hU
 refine (ird_text p ao n cap bs s U HX0.out.rd).mono ?_
 rintro e w1 ⟨rfl,r1,k1⟩
 obtain ⟨a1,s1,hv1⟩ : ∃ a s',rText bs 64 s = (a,s') := ⟨_,_,rfl⟩
 rw [hv1] at r1 ⊢
 dsimp only at r1 ⊢
 have HV1 := Lib.hid hv1
 have HC1 := Lib.hid (HX0.out.call k1 r1)
 clear r1 k1 hv1
 have c0 := HC1.out.cell 0
 have c1 := HC1.out.cell 1
 have c2 := HC1.out.cell 2
 have c3 := HC1.out.cell 3
 have c4 := HC1.out.cell 4
 have c5 := HC1.out.cell 5
 have c6 := HC1.out.cell 6
 have c7 := HC1.out.cell 7
 have c8 := HC1.out.cell 8
 have c9 := HC1.out.cell 9
 have c10 := HC1.out.cell 10
 have c11 := HC1.out.cell 11
 simp only [List.getElem?_toArray,List.getElem?_cons_zero,List.getElem?_cons_succ] at c0 c1 c2 c3 c4 c5 c6 c7 c8 c9 c10 c11
 have z0 := HC1.out.fz 0
 have HX1 : Hid (Rx w (w1.setCell ⟨w.heap.size + 1,0,none⟩ (.string a1)) p ao n cap bs s1 100 #[.string ⟨#[]⟩,.int .i64 0,.int .i64 0,.int .i64 0,.int .i64 0,.int .i64 0,.int .i64 0,.int .i64 0,.slice none 0 0,.string ⟨#[]⟩,.int .i64 0,.bool false] #[.string a1,.int .i64 0,.int .i64 0,.int .i64 0,.int .i64 0,.int .i64 0,.int .i64 0,.int .i64 0,.slice none 0 0,.string ⟨#[]⟩,.int .i64 0,.bool false]) := Lib.hid (HC1.out.set 0 (.string a1))
 obtain ⟨u1,hu1⟩ : ∃ u,(w1.setCell ⟨w.heap.size + 1,0,none⟩ (.string a1)) = u := ⟨_,rfl⟩
 rw [hu1] at HX1
 go_wp2_with fail
 clear hu1 c0 c1 c2 c3 c4 c5 c6 c7 c8 c9 c10 c11 z0
 refine (ird_day p ao n cap bs s1 u1 HX1.out.rd).mono ?_
 rintro e w2 ⟨rfl,r2,k2⟩
 obtain ⟨a2,s2,hv2⟩ : ∃ a s',rDay bs s1 = (a,s') := ⟨_,_,rfl⟩
 rw [hv2] at r2 ⊢
 dsimp only at r2 ⊢
 have HV2 := Lib.hid hv2
 have HC2 := Lib.hid (HX1.out.call k2 r2)
 clear r2 k2 hv2
 have c0 := HC2.out.cell 0
 have c1 := HC2.out.cell 1
 have c2 := HC2.out.cell 2
 have c3 := HC2.out.cell 3
 have c4 := HC2.out.cell 4
 have c5 := HC2.out.cell 5
 have c6 := HC2.out.cell 6
 have c7 := HC2.out.cell 7
 have c8 := HC2.out.cell 8
 have c9 := HC2.out.cell 9
 have c10 := HC2.out.cell 10
 have c11 := HC2.out.cell 11
 simp only [List.getElem?_toArray,List.getElem?_cons_zero,List.getElem?_cons_succ] at c0 c1 c2 c3 c4 c5 c6 c7 c8 c9 c10 c11
 have z2 := HC2.out.fz 2
 have z3 := HC2.out.fz 3
 have z4 := HC2.out.fz 4
 have HX2 : Hid (Rx w (((w2.setCell ⟨w.heap.size + 1,2,none⟩ (.int .i64 a2.1)).setCell ⟨w.heap.size + 1,3,none⟩ (.int .i64 a2.2.1)).setCell ⟨w.heap.size + 1,4,none⟩ (.int .i64 a2.2.2)) p ao n cap bs s2 100 #[.string ⟨#[]⟩,.int .i64 0,.int .i64 0,.int .i64 0,.int .i64 0,.int .i64 0,.int .i64 0,.int .i64 0,.slice none 0 0,.string ⟨#[]⟩,.int .i64 0,.bool false] #[.string a1,.int .i64 0,.int .i64 a2.1,.int .i64 a2.2.1,.int .i64 a2.2.2,.int .i64 0,.int .i64 0,.int .i64 0,.slice none 0 0,.string ⟨#[]⟩,.int .i64 0,.bool false]) := Lib.hid (((HC2.out.set 2 (.int .i64 a2.1)).set 3 (.int .i64 a2.2.1)).set 4 (.int .i64 a2.2.2))
 obtain ⟨u2,hu2⟩ : ∃ u,(((w2.setCell ⟨w.heap.size + 1,2,none⟩ (.int .i64 a2.1)).setCell ⟨w.heap.size + 1,3,none⟩ (.int .i64 a2.2.1)).setCell ⟨w.heap.size + 1,4,none⟩ (.int .i64 a2.2.2)) = u := ⟨_,rfl⟩
 rw [hu2] at HX2
 go_wp2_with fail
 clear hu2 c0 c1 c2 c3 c4 c5 c6 c7 c8 c9 c10 c11 z2 z3 z4
 refine (ird_text p ao n cap bs s2 u2 HX2.out.rd).mono ?_
 rintro e w3 ⟨rfl,r3,k3⟩
 obtain ⟨a3,s3,hv3⟩ : ∃ a s',rText bs 64 s2 = (a,s') := ⟨_,_,rfl⟩
 rw [hv3] at r3 ⊢
 dsimp only at r3 ⊢
 have HV3 := Lib.hid hv3
 have HC3 := Lib.hid (HX2.out.call k3 r3)
 clear r3 k3 hv3
 have c0 := HC3.out.cell 0
 have c1 := HC3.out.cell 1
 have c2 := HC3.out.cell 2
 have c3 := HC3.out.cell 3
 have c4 := HC3.out.cell 4
 have c5 := HC3.out.cell 5
 have c6 := HC3.out.cell 6
 have c7 := HC3.out.cell 7
 have c8 := HC3.out.cell 8
 have c9 := HC3.out.cell 9
 have c10 := HC3.out.cell 10
 have c11 := HC3.out.cell 11
 simp only [List.getElem?_toArray,List.getElem?_cons_zero,List.getElem?_cons_succ] at c0 c1 c2 c3 c4 c5 c6 c7 c8 c9 c10 c11
 have z9 := HC3.out.fz 9
 have HX3 : Hid (Rx w (w3.setCell ⟨w.heap.size + 1,9,none⟩ (.string a3)) p ao n cap bs s3 100 #[.string ⟨#[]⟩,.int .i64 0,.int .i64 0,.int .i64 0,.int .i64 0,.int .i64 0,.int .i64 0,.int .i64 0,.slice none 0 0,.string ⟨#[]⟩,.int .i64 0,.bool false] #[.string a1,.int .i64 0,.int .i64 a2.1,.int .i64 a2.2.1,.int .i64 a2.2.2,.int .i64 0,.int .i64 0,.int .i64 0,.slice none 0 0,.string a3,.int .i64 0,.bool false]) := Lib.hid (HC3.out.set 9 (.string a3))
 obtain ⟨u3,hu3⟩ : ∃ u,(w3.setCell ⟨w.heap.size + 1,9,none⟩ (.string a3)) = u := ⟨_,rfl⟩
 rw [hu3] at HX3
 go_wp2_with fail
 clear hu3 c0 c1 c2 c3 c4 c5 c6 c7 c8 c9 c10 c11 z9
 refine (rd_num p ao n cap bs s3 u3 HX3.out.rd).mono ?_
 rintro e w4 ⟨rfl,r4,k4⟩
 obtain ⟨a4,s4,hv4⟩ : ∃ a s',rNum bs s3 = (a,s') := ⟨_,_,rfl⟩
 rw [hv4] at r4 ⊢
 dsimp only at r4 ⊢
 have HV4 := Lib.hid hv4
 have HC4 := Lib.hid (HX3.out.call k4 r4)
 clear r4 k4 hv4
 have c0 := HC4.out.cell 0
 have c1 := HC4.out.cell 1
 have c2 := HC4.out.cell 2
 have c3 := HC4.out.cell 3
 have c4 := HC4.out.cell 4
 have c5 := HC4.out.cell 5
 have c6 := HC4.out.cell 6
 have c7 := HC4.out.cell 7
 have c8 := HC4.out.cell 8
 have c9 := HC4.out.cell 9
 have c10 := HC4.out.cell 10
 have c11 := HC4.out.cell 11
 simp only [List.getElem?_toArray,List.getElem?_cons_zero,List.getElem?_cons_succ] at c0 c1 c2 c3 c4 c5 c6 c7 c8 c9 c10 c11
 have z10 := HC4.out.fz 10
 have HX4 : Hid (Rx w (w4.setCell ⟨w.heap.size + 1,10,none⟩ (.int .i64 a4)) p ao n cap bs s4 100 #[.string ⟨#[]⟩,.int .i64 0,.int .i64 0,.int .i64 0,.int .i64 0,.int .i64 0,.int .i64 0,.int .i64 0,.slice none 0 0,.string ⟨#[]⟩,.int .i64 0,.bool false] #[.string a1,.int .i64 0,.int .i64 a2.1,.int .i64 a2.2.1,.int .i64 a2.2.2,.int .i64 0,.int .i64 0,.int .i64 0,.slice none 0 0,.string a3,.int .i64 a4,.bool false]) := Lib.hid (HC4.out.set 10 (.int .i64 a4))
 obtain ⟨u4,hu4⟩ : ∃ u,(w4.setCell ⟨w.heap.size + 1,10,none⟩ (.int .i64 a4)) = u := ⟨_,rfl⟩
 rw [hu4] at HX4
 go_wp2_with fail
 clear hu4 c0 c1 c2 c3 c4 c5 c6 c7 c8 c9 c10 c11 z10
 refine (ird_itemsPt p ao n cap bs 12 s4 u4 HX4.out.rd (by omega)).mono ?_
 rintro e w5 ⟨v5,rfl,o5,r5,k5⟩
 have hsh : ∀ x ∈ (Im.rList bs 12 (Im.rPart bs) s4).1,Pt.Short x := Im.parts_short bs _ _
 obtain ⟨a5,s5,hv5⟩ : ∃ a s',Im.rList bs 12 (Im.rPart bs) s4 = (a,s') := ⟨_,_,rfl⟩
 rw [hv5] at r5 o5 hsh
 dsimp only at r5 o5 hsh
 have HV5 := Lib.hid hv5
 obtain ⟨po,pc,hvp,l5,g5⟩ := Pt.own_ls o5 hsh
 subst hvp
 have HL5 := Lib.hid l5
 have HG5 := Lib.hid g5
 have HO5 := Lib.hid o5
 have HS4 : Hid (w.heap.size + 2 ≤ u4.heap.size) := Lib.hid (Nat.succ_le_of_lt (Array.getElem?_eq_some_iff.1 HX4.out.var).1)
 obtain ⟨m5,hm5⟩ : ∃ m,a5.length = m := ⟨_,rfl⟩
 rw [hm5] at HL5 HO5
 rw [hm5]
 have HC5 := Lib.hid (HX4.out.call k5 r5)
 clear r5 k5 hv5 o5 l5 g5 hsh hm5
 have c0 := HC5.out.cell 0
 have c1 := HC5.out.cell 1
 have c2 := HC5.out.cell 2
 have c3 := HC5.out.cell 3
 have c4 := HC5.out.cell 4
 have c5 := HC5.out.cell 5
 have c6 := HC5.out.cell 6
 have c7 := HC5.out.cell 7
 have c8 := HC5.out.cell 8
 have c9 := HC5.out.cell 9
 have c10 := HC5.out.cell 10
 have c11 := HC5.out.cell 11
 simp only [List.getElem?_toArray,List.getElem?_cons_zero,List.getElem?_cons_succ] at c0 c1 c2 c3 c4 c5 c6 c7 c8 c9 c10 c11
 have z8 := HC5.out.fz 8
 have HX5 : Hid (Rx w (w5.setCell ⟨w.heap.size + 1,8,none⟩ (.slice po m5 pc)) p ao n cap bs s5 100 #[.string ⟨#[]⟩,.int .i64 0,.int .i64 0,.int .i64 0,.int .i64 0,.int .i64 0,.int .i64 0,.int .i64 0,.slice none 0 0,.string ⟨#[]⟩,.int .i64 0,.bool false] #[.string a1,.int .i64 0,.int .i64 a2.1,.int .i64 a2.2.1,.int .i64 a2.2.2,.int .i64 0,.int .i64 0,.int .i64 0,.slice po m5 pc,.string a3,.int .i64 a4,.bool false]) := Lib.hid (HC5.out.set 8 (.slice po m5 pc))
 obtain ⟨u5,hu5⟩ : ∃ u,(w5.setCell ⟨w.heap.size + 1,8,none⟩ (.slice po m5 pc)) = u := ⟨_,rfl⟩
 rw [hu5] at HX5
 have hvar := HX5.out.var
 have hres := HX5.out.res
 have hAt : Pd.At u5 (w.heap.size + 1) 0 ⟨a1,0,a2.1,a2.2.1,a2.2.2,0,0,0,⟨po,m5,pc⟩,a3,a4,false⟩ := by
  refine ⟨?_,?_,?_,?_,?_,?_,?_,?_,?_,?_,?_,?_⟩
  all_goals rw [cell_of_row u5 _ _ _ _ _ hvar]
  all_goals rfl
 have HLu : Hid (Pt.Ls u5 po m5 pc a5) := Lib.hid (by
  rw [← hu5]
  refine HL5.out.kp (A := w.heap.size + 2) (fun hn b off e => ?_) (Kp.set w5 (by omega) _ _)
  obtain ⟨g,h1,h2⟩ := HG5.out _ e
  cases h1
  have := HS4.out
  omega)
 have HOu : Hid (Pt.Own u5 (w.heap.size + 2) (.slice po m5 pc) a5) := Lib.hid (by
  rw [← hu5]
  exact Pt.own_mono ((Fg.set w5 (A := w.heap.size + 2) (by omega) _ _).rows HO5.out HS4.out) HS4.out)
 go_wp2_with (first | ((with_reducible apply Pd.wpl_load hAt); rfl; rfl; rfl) | ((with_reducible apply Pd.wpl_put (r := ⟨a1,0,a2.1,a2.2.1,a2.2.2,0,0,0,⟨po,m5,pc⟩,a3,a4,false⟩) hres rfl); rfl; rfl; rfl; rfl))
 have HV : Hid (Im.rPost bs s = ((⟨a1,0,a2.1,a2.2.1,a2.2.2,⟨0,0,0,a5⟩,a3,a4,false⟩ : Bl.Ps),s5)) := Lib.hid (by
  unfold Im.rPost
  dsimp only
  rw [HV1.out]
  try dsimp only
  rw [HV2.out]
  try dsimp only
  rw [HV3.out]
  try dsimp only
  rw [HV4.out]
  try dsimp only
  rw [HV5.out]
  try dsimp only
  )
 refine bodyPost_ret (Pd.results_put Tryz.results49 rfl (Pd.heap_put _ hres)) rfl ⟨_,rfl,?_,?_,?_,?_,?_⟩
 ·
  rw [HV.out]
  refine ⟨rfl,rfl,rfl,rfl,rfl,rfl,rfl,rfl,?_,rfl,rfl,rfl⟩
  exact HLu.out.kp (A := w.heap.size + 2) (fun hn b off e => by
   obtain ⟨g,h1,h2⟩ := HG5.out _ e
   cases h1
   have := HS4.out
   omega) ⟨fun b o ha hb => World.cell?_of_block (setRow_other u5 w.heap.size b _ (by omega)),by simp [World.setRow]⟩
 ·
  intro hn b off e
  obtain ⟨g,h1,h2⟩ := HG5.out _ e
  cases h1
  have := HS4.out
  omega
 ·
  rw [HV.out]
  exact (Fg.row u5 (A := w.heap.size + 2) (by omega) _).rows HOu.out (Nat.le_refl _)
 ·
  rw [HV.out]
  exact HX5.out.rd.row HX5.out.off0 _
 · exact HX5.out.upd.row (Nat.le_refl _) _
end Go.Proofs.YtillcleccjgocaaGreat
namespace Go.Proofs.YtillcleccjgocaaGreat
open Go.RowKit
open Mem Pk Cm
theorem Upd.kpP {u v : World} {p : Nat} {P : Nat → Prop} (h : Upd u p v) (hP : ∀ b,P b → b ≠ p) : KpP P u v := ⟨fun b o hb hl => h.cell b o hl (hP b hb),h.size⟩
theorem kpP_grow {P : Nat → Prop} {u v : World} {row : Option Nat} (gr : u.grownBy v row) (hP : ∀ b,P b → row ≠ some b) : KpP P u v :=
 ⟨fun b o hb hl => World.cell?_of_block (gr.block b hl (fun k => hP b hb k.symm)),gr.size⟩
theorem Bl.Each.kpP {P : Nat → Prop} {w v : World} {rs : List Pd.T} {ps : List Bl.Ps} (h : Bl.Each w rs ps) (hi : ∀ r ∈ rs,InP P r.parts.ao r.parts.n) (k : KpP P w v) : Bl.Each v rs ps := ⟨h.len,fun i q => (h.each i q).kpP (hi _ (List.getElem_mem q)) k⟩
def PtN (w : World) (v : Value) (rs : List Pd.T) : Prop := ∀ r ∈ rs,InP (fun b => w.heap.size ≤ b ∧ v.ownBlock ≠ some b) r.parts.ao r.parts.n
structure PtO (w : World) (A : Nat) (v : Value) (rs : List Pd.T) (ps : List Bl.Ps) : Prop where
 own : ∀ i (h : i < rs.length) (k : i < ps.length),Pt.Own w A (Bl.sl rs[i].parts) ps[i].tot.parts
 off : ∀ i (h : i < rs.length) b,(Bl.sl rs[i].parts).ownBlock = some b → v.ownBlock ≠ some b
 apart : ∀ i j (hi : i < rs.length) (hj : j < rs.length),i < j → ∀ b,(Bl.sl rs[i].parts).ownBlock = some b → (Bl.sl rs[j].parts).ownBlock ≠ some b
theorem PtO.nil (w : World) (A : Nat) (v : Value) : PtO w A v [] [] := ⟨fun _ h => absurd h (Nat.not_lt_zero _),fun _ h => absurd h (Nat.not_lt_zero _),fun _ _ h => absurd h (Nat.not_lt_zero _)⟩
theorem PtO.lt {w : World} {A : Nat} {v : Value} {rs : List Pd.T} {ps : List Bl.Ps} (h : PtO w A v rs ps) (hl : rs.length = ps.length) (i : Nat) (hi : i < rs.length) (b : Nat) (e : (Bl.sl rs[i].parts).ownBlock = some b) : A ≤ b ∧ b < w.heap.size :=
 World.ownsRow.lt (h.own i hi (hl ▸ hi)) b e
theorem PtO.keep {w u : World} {A : Nat} {v : Value} {rs : List Pd.T} {ps : List Bl.Ps} (h : PtO w A v rs ps) (k : ∀ i (hi : i < rs.length) g,(Bl.sl rs[i].parts).ownBlock = some g → u.heap[g]? = w.heap[g]?) : PtO u A v rs ps :=
 ⟨fun i hi hk => rows_keep (h.own i hi hk) (k i hi),h.off,h.apart⟩
theorem PtO.move {w : World} {A : Nat} {v v' : Value} {rs : List Pd.T} {ps : List Bl.Ps} (h : PtO w A v rs ps) (k : ∀ i (hi : i < rs.length) b,(Bl.sl rs[i].parts).ownBlock = some b → v'.ownBlock ≠ some b) : PtO w A v' rs ps := ⟨h.own,k,h.apart⟩
theorem PtO.add {w : World} {A C : Nat} {v : Value} {rs : List Pd.T} {ps : List Bl.Ps} (h : PtO w A v rs ps) (hl : rs.length = ps.length) {r : Pd.T} {p : Bl.Ps} (o : Pt.Own w C (Bl.sl r.parts) p.tot.parts) (hAC : A ≤ C) (hlt : ∀ i (hi : i < rs.length) b,(Bl.sl rs[i].parts).ownBlock = some b → b < C) (hv : ∀ b,v.ownBlock = some b → b < C) : PtO w A v (rs ++ [r]) (ps ++ [p]) := by
 have get : ∀ i (hi : i < (rs ++ [r]).length),(∃ k : i < rs.length,(rs ++ [r])[i] = rs[i]) ∨ (i = rs.length ∧ (rs ++ [r])[i] = r) := fun i hi => by
  rcases Nat.lt_or_ge i rs.length with k | k
  · exact .inl ⟨k,List.getElem_append_left k⟩
  ·
   rw [List.length_append,List.length_singleton] at hi
   obtain rfl : i = rs.length := by omega
   exact .inr ⟨rfl,by simp⟩
 have ge : ∀ b,(Bl.sl r.parts).ownBlock = some b → C ≤ b := fun b e => (World.ownsRow.lt o b e).1
 refine ⟨fun i hi hk => ?_,fun i hi b e z => ?_,fun i j hi hj hij b e z => ?_⟩
 ·
  rcases get i hi with ⟨k,e⟩ | ⟨rfl,e⟩
  ·
   rw [e,List.getElem_append_left (hl ▸ k)]
   exact h.own i k (hl ▸ k)
  ·
   rw [e]
   have e2 : (ps ++ [p])[rs.length]'hk = p := by
    rw [List.getElem_append_right (by omega)]
    simp
   rw [e2]
   exact Pt.own_mono o hAC
 ·
  rcases get i hi with ⟨k,q⟩ | ⟨rfl,q⟩
  ·
   rw [q] at e
   exact h.off i k b e z
  ·
   rw [q] at e
   have := ge b e
   have := hv b z
   omega
 ·
  rcases get i hi with ⟨k,q⟩ | ⟨rfl,q⟩
  ·
   rw [q] at e
   rcases get j hj with ⟨k2,q2⟩ | ⟨rfl,q2⟩
   ·
    rw [q2] at z
    exact h.apart i j k k2 hij b e z
   ·
    rw [q2] at z
    have := ge b z
    have := hlt i k b e
    omega
  ·
   rw [List.length_append,List.length_singleton] at hj
   omega
set_option maxHeartbeats 2000000 in
theorem ird_itemsPd (p : Nat) (ao : Option Addr) (n cap : Nat) (bs : List UInt8) (most : Int) (s : St) (w : World) (hR : Rd w p ao n cap bs s) (hm : most ≤ 1000) :
  Calls Tryz.prog 48 #[.pointer (some ⟨p,0,none⟩),.int .i64 most,.func (.func 49) #[] #[]] w fun e w' => ∃ v rs,e = .returned v ∧ Pd.Own w' w.heap.size v rs ∧ Bl.Each w' rs (Im.rList bs most (Im.rPost bs) s).1 ∧ PtN w v rs ∧ PtO w' w.heap.size v rs (Im.rList bs most (Im.rPost bs) s).1 ∧ Rd w' p ao n cap bs (Im.rList bs most (Im.rPost bs) s).2 ∧ Upd w p w' := by
 have HI0 := Lib.hid (Ri.start hR)
 have HM := Lib.hid hm
 clear hR hm
 go_enter Tryz.func48,Tryz.ntmps48
 go_wp2_with fail
 refine (rd_count p ao n cap bs most s w HI0.out.rd).mono ?_
 rintro e w1 ⟨rfl,r1,k1⟩
 have HP := Lib.hid (rCount_pos bs most s)
 have HMx : Hid ((rCount bs most s).1 ≤ 1000) := Lib.hid (by have h := Im.count_most bs most s; have h2 := HM.out; rcases h with h | h <;> omega)
 obtain ⟨c,s1,hv⟩ : ∃ c s1,rCount bs most s = (c,s1) := ⟨_,_,rfl⟩
 have HV := Lib.hid hv
 rw [hv] at r1 HP HMx ⊢
 dsimp only at r1 HP HMx ⊢
 obtain ⟨N,hN⟩ : ∃ N : Nat,c = (N : Int) := ⟨c.toNat,by have := HP.out; omega⟩
 subst hN
 have HI1 := Lib.hid (HI0.out.call r1 k1)
 have hN1 : N ≤ 1000 := by have := HMx.out; omega
 clear r1 k1 hv
 go_wp2_with fail
 go_loopw [7,11] (fun t j wr => ∃ (k : Nat) (vo : Option Addr) (q vc : Nat) (rs : List Pd.T),k ≤ N ∧ j = .int .i64 k ∧ t = .slice vo q vc ∧ Hid (Ri w wr p ao n cap bs (Im.rItems (Im.rPost bs) k s1).2) ∧ Hid (Pd.Own wr w.heap.size (.slice vo q vc) rs) ∧ Hid (Bl.Each wr rs (Im.rItems (Im.rPost bs) k s1).1) ∧ Hid (PtN w (.slice vo q vc) rs) ∧ Hid (PtO wr w.heap.size (.slice vo q vc) rs (Im.rItems (Im.rPost bs) k s1).1)) (fun _ j _ => N - (intOf j).toNat)
 case atStart => exact ⟨0,none,0,0,[],by omega,rfl,rfl,HI1,Lib.hid (Pd.own_nil _ _),Lib.hid (Bl.each_nil _),Lib.hid (fun r hr => by cases hr),Lib.hid (PtO.nil _ _ _)⟩
 case round =>
  clear HI1
  rename World => wz
  obtain ⟨k,vo,q,vc,rs,hk,rfl,rfl,HI,HO,HE,HN,HY⟩ := hrel
  by_cases hlt : k < N
  ·
   have HSn := Lib.hid (Im.items_snoc (Im.rPost bs) k s1)
   have HLn : Hid (rs.length = k) := Lib.hid (by rw [HE.out.len,Im.rItems_len])
   generalize Im.rItems (Im.rPost bs) k s1 = rk at HI HO HE HSn HY
   obtain ⟨L,sk⟩ := rk
   dsimp only at HI HO HE HSn HY
   go_wp2_with fail
   refine (ird_posted p ao n cap bs sk wz HI.out.rd).mono ?_
   rintro e w2 ⟨r,rfl,i2,a2,y2,r2,k2⟩
   have hpw := HI.out.lt
   have HI2 := Lib.hid (HI.out.call r2 k2)
   have HO2 := Lib.hid (rows_upd HO.out k2 (by omega))
   have HE2 := Lib.hid (HE.out.kpP HN.out (k2.kpP fun b hb => by have := hb.1; omega))
   have HZ := Lib.hid (And.intro HI.out.upd.size k2.size)
   have HIs := Lib.hid i2
   have HY2 : Hid (PtO w2 w.heap.size (.slice vo q vc) (rs ++ [r]) (L ++ [(Im.rPost bs sk).1])) := Lib.hid (by
    have hlen := HE.out.len
    have hsz := HI.out.upd.size
    refine (HY.out.keep fun i hi g hg => k2.block g (HY.out.lt hlen i hi g hg).2 ?_).add hlen y2 (by omega) (fun i hi b e => ?_) fun b e => ?_
    ·
     have := (HY.out.lt hlen i hi g hg).1
     omega
    ·
     have := (HY.out.lt hlen i hi b e).2
     omega
    ·
     have := (World.ownsRow.lt HO.out b e).2
     omega)
   have HA2 := Lib.hid a2
   have HRw := Lib.hid (World.ownsRow.lt HO.out)
   clear r2 k2 i2 a2 y2 HO HE HY
   go_wp2_with (first | ((with_reducible apply Pd.wpl_one (r := r)); rfl; rfl; rfl) | (at_builtin; go_must (refine Pd.wpList_append (w2.alloc (Pd.block r)) rfl (.tmp 13) (.tmp 17) rfl w.heap.size (.slice vo q vc) rs rfl (Pd.own_alloc HO2.out _) (some ⟨w2.heap.size,0,none⟩) 1 1 [r] rfl rfl (fun h => by cases h) (Pd.seg_block (heap_alloc_new w2 _)) (by have := HLn.out; omega) (by have := HI2.out.upd.size; simp; omega) ?_)))
   intro v3 w3 o3 gr3 at3
   obtain ⟨va,vcp,hv3⟩ := rows_slice o3
   subst hv3
   have hz := HZ.out
   have hb2 : Below w2.heap.size w2 (w2.alloc (Pd.block r)) := (Below.refl _ _).alloc (Nat.le_refl _) _
   have hs2 : (w2.alloc (Pd.block r)).heap.size = w2.heap.size + 1 := by simp
   have HI3 := Lib.hid (HI2.out.app _ gr3 (World.ownsRow.lt HO2.out))
   have hNew : PtN w (.slice va _ vcp) (rs ++ [r]) := fun x hx => by
    rcases List.mem_append.1 hx with hx | hx
    ·
     intro hn b off e
     have h1 := HN.out x hx hn b off e
     obtain ⟨j,hj,e2⟩ := List.getElem_of_mem hx
     have h2 := (HE2.out.each j hj).parts.inp (by rw [e2]; exact hn) b off (by rw [e2]; exact e)
     refine ⟨h1.1,fun z => ?_⟩
     rcases at3 with y | y
     ·
      rw [y] at z
      exact h1.2 z
     ·
      rw [y] at z
      cases z
      omega
    ·
     rw [List.mem_singleton.1 hx]
     intro hn b off e
     have h1 := HA2.out hn b off e
     have h2 := HIs.out.parts.inp hn b off e
     refine ⟨by omega,fun z => ?_⟩
     rcases at3 with y | y
     ·
      rw [y] at z
      have := (HRw.out b z).2
      omega
     ·
      rw [y] at z
      cases z
      omega
   have hE3 : Bl.Each w3 (rs ++ [r]) (L ++ [(Im.rPost bs sk).1]) := by
    have e1 := (HE2.out.add HIs.out).below hb2
    refine e1.kpP (P := fun b => (Value.slice vo q vc).ownBlock ≠ some b) (fun x hx => ?_) (kpP_grow gr3 fun b hb => hb)
    rcases List.mem_append.1 hx with hx | hx
    · exact (HN.out x hx).mono fun b hb => hb.2
    ·
     rw [List.mem_singleton.1 hx]
     intro hn b off e z
     have h1 := HA2.out hn b off e
     have := (HRw.out b z).2
     omega
   have hY3 : PtO w3 w.heap.size (.slice va (rs ++ [r]).length vcp) (rs ++ [r]) (L ++ [(Im.rPost bs sk).1]) := by
    have hlen : (rs ++ [r]).length = (L ++ [(Im.rPost bs sk).1]).length := by
     rw [List.length_append,List.length_append,HE2.out.len]
     rfl
    refine ((HY2.out.keep (u := w2.alloc (Pd.block r)) fun i hi g hg => ?_).keep fun i hi g hg => ?_).move fun i hi b e => ?_
    · exact hb2.block g (HY2.out.lt hlen i hi g hg).2
    · exact gr3.block g (by have := (HY2.out.lt hlen i hi g hg).2; omega) (fun z => HY2.out.off i hi g hg z.symm)
    ·
     rcases at3 with y | y
     ·
      rw [y]
      exact HY2.out.off i hi b e
     ·
      rw [y]
      intro z
      cases z
      have := (HY2.out.lt hlen i hi _ e).2
      omega
   have HY3 := Lib.hid hY3
   clear hY3
   have HO3 := Lib.hid o3
   have HE3 := Lib.hid hE3
   have HN3 := Lib.hid hNew
   clear gr3 o3 at3 hE3 hNew hb2 hs2 hz
   go_wp2_with fail
   go_roundw
   case rel =>
    refine ⟨k + 1,_,_,_,rs ++ [r],by omega,by go_num,rfl,Lib.hid ?_,HO3,Lib.hid ?_,HN3,Lib.hid ?_⟩
    ·
     rw [HSn.out.2]
     exact HI3.out
    ·
     rw [HSn.out.1]
     exact HE3.out
    ·
     rw [HSn.out.1]
     exact HY3.out
   case measure => simp [intOf]; omega
  ·
   obtain rfl : k = N := by omega
   have HQ : Hid (Im.rList bs most (Im.rPost bs) s = Im.rItems (Im.rPost bs) k s1) := Lib.hid (by
    unfold Im.rList
    rw [HV.out]
    dsimp only
    rw [Int.toNat_natCast])
   go_wp2_with fail
   go_ret
   rw [HQ.out]
   exact ⟨_,rs,rfl,HO.out,HE.out,HN.out,HY.out,HI.out.rd,HI.out.upd⟩
end Go.Proofs.YtillcleccjgocaaGreat
namespace Go.Proofs.YtillcleccjgocaaGreat.Sr
open Go.RowKit
open Mem
theorem own_at {w : World} {B g n cap : Nat} {M : List T} (h : Own w B (.slice (some ⟨g,0,none⟩) n cap) M) (k : Nat) (hk : k < M.length) : At w g (k * 4) M[k] ∧ (∀ o,w.frozen? ⟨g,o,none⟩ = false) ∧ B ≤ g := by
 rcases h.2 with ⟨h',_⟩ | ⟨g',cap',cur,h',hb,hg,hnc,hcm,hcs,htake⟩
 · cases h'
 ·
  simp only [Value.slice.injEq,Option.some.injEq,Addr.mk.injEq,and_true] at h'
  obtain ⟨e1,e2,e3⟩ := h'
  subst e1 e3
  have hcell : ∀ p,p < 4 → w.cell? ⟨g,k * 4 + p,none⟩ = (rv M[k])[p]? := by
   intro p hp
   rw [cell_of_row w g _ _ _ _ hg,← flat_at M k p hk hp,← htake,List.getElem?_take_of_lt (by omega)]
   simp
  exact ⟨⟨hcell 0 (by omega),hcell 1 (by omega),hcell 2 (by omega),hcell 3 (by omega)⟩,fun o => frozen_of_row w g o _ _ hg,hb⟩
end Go.Proofs.YtillcleccjgocaaGreat.Sr
namespace Go.Proofs.YtillcleccjgocaaGreat.Pd
open Go.RowKit
open Mem
theorem own_at {w : World} {B g n cap : Nat} {M : List T} (h : Own w B (.slice (some ⟨g,0,none⟩) n cap) M) (k : Nat) (hk : k < M.length) : At w g (k * 12) M[k] ∧ (∀ o,w.frozen? ⟨g,o,none⟩ = false) ∧ B ≤ g := by
 rcases h.2 with ⟨h',_⟩ | ⟨g',cap',cur,h',hb,hg,hnc,hcm,hcs,htake⟩
 · cases h'
 ·
  simp only [Value.slice.injEq,Option.some.injEq,Addr.mk.injEq,and_true] at h'
  obtain ⟨e1,e2,e3⟩ := h'
  subst e1 e3
  have hcell : ∀ p,p < 12 → w.cell? ⟨g,k * 12 + p,none⟩ = (rv M[k])[p]? := by
   intro p hp
   rw [cell_of_row w g _ _ _ _ hg,← flat_at M k p hk hp,← htake,List.getElem?_take_of_lt (by omega)]
   simp
  exact ⟨⟨hcell 0 (by omega),hcell 1 (by omega),hcell 2 (by omega),hcell 3 (by omega),hcell 4 (by omega),hcell 5 (by omega),hcell 6 (by omega),hcell 7 (by omega),hcell 8 (by omega),hcell 9 (by omega),hcell 10 (by omega),hcell 11 (by omega)⟩,fun o => frozen_of_row w g o _ _ hg,hb⟩
theorem flat_put (r : T) (p : Nat) (x : Value) (hp : p < 12) : ∀ (M : List T) (k : Nat) (hk : k < M.length),rv r = (rv M[k]).set p x → (M.set k r).flatMap rv = (M.flatMap rv).set (k * 12 + p) x
 | a :: l,0,_,h => by
  have h' : rv r = (rv a).set p x := h
  rw [List.set_cons_zero,List.flatMap_cons,List.flatMap_cons,Nat.zero_mul,Nat.zero_add,List.set_append_left _ _ (by rw [rv_len]; exact hp),h']
 | a :: l,k + 1,hk,h => by
  have ih := flat_put r p x hp l k (by simpa using hk) (by simpa using h)
  rw [List.set_cons_succ,List.flatMap_cons,List.flatMap_cons,List.set_append_right _ _ (by rw [rv_len]; omega),rv_len,show (k + 1) * 12 + p - 12 = k * 12 + p by omega,ih]
theorem own_put {w : World} {B g n cap : Nat} {M : List T} (h : Own w B (.slice (some ⟨g,0,none⟩) n cap) M) (k p : Nat) (hk : k < M.length) (hp : p < 12) (x : Value) (r : T) (hr : rv r = (rv M[k]).set p x) :
  Own (w.setCell ⟨g,k * 12 + p,none⟩ x) B (.slice (some ⟨g,0,none⟩) n cap) (M.set k r) := by
 rcases h.2 with ⟨h',_⟩ | ⟨g',cap',cur,h',hb,hg,hnc,hcm,hcs,htake⟩
 · cases h'
 ·
  simp only [Value.slice.injEq,Option.some.injEq,Addr.mk.injEq,and_true] at h'
  obtain ⟨e1,e2,e3⟩ := h'
  subst e1 e3
  have h1 := heap_setCell_same _ g (k * 12 + p) _ _ x hg
  refine ⟨by rw [flat_len],.inr ⟨g,cap,_,by rw [List.length_set,e2],hb,h1,by rw [List.length_set]; exact hnc,hcm,by simpa using hcs,?_⟩⟩
  rw [List.length_set,flat_put r p x hp M k hk hr]
  simp only [Array.toList_setIfInBounds]
  rw [← htake]
  simp only [List.take_set]
end Go.Proofs.YtillcleccjgocaaGreat.Pd
namespace Go.Proofs.YtillcleccjgocaaGreat.Ba
open Go.RowKit
open Mem
def Block (w : World) (g : Nat) (ts : List T) : Prop := w.heap[g]? = some (.cells (ts.flatMap rv).toArray 70 (0,0))
def zeros (n : Nat) : Array Value := ((List.replicate n zero).flatMap rv).toArray
theorem sizeZ : (Tryz.prog.info? 70).map (·.size) = some 2 := by kernel_rfl
theorem made (n : Nat) : madeCells zeroV.cells (n * 2) = zeros n := by
 apply Array.ext_getElem?
 intro j
 by_cases hj : j < n * 2
 ·
  obtain ⟨k,p,rfl,hp⟩ : ∃ k p,j = k * 2 + p ∧ p < 2 := ⟨j / 2,j % 2,by omega,by omega⟩
  have hk : k < n := by omega
  have hz : (zeros n)[k * 2 + p]? = (rv zero)[p]? := by
   unfold zeros
   rw [List.getElem?_toArray,flat_at (List.replicate n zero) k p (by simpa using hk) hp,List.getElem_replicate]
  rw [hz]
  have e : (k * 2 + p) % 2 = p := by omega
  have hp' : p = 0 ∨ p = 1 := by omega
  unfold madeCells
  rw [Array.getElem?_map,Array.getElem?_range,if_pos hj]
  simp only [Option.map_some]
  rw [show zeroV.cells.size = 2 from rfl,e]
  rcases hp' with rfl | rfl <;> rfl
 ·
  rw [Array.getElem?_eq_none (by rw [size_madeCells]; omega),Array.getElem?_eq_none]
  unfold zeros
  rw [List.size_toArray,flat_len,List.length_replicate]
  omega
theorem make (n : Nat) (hn : n ≤ 100000) (u : World) : (Instr.makeSlice 27 (.int .i64 (n : Int)) (.int .i64 (n : Int))).run Tryz.prog u =
  .ok (.slice (some ⟨u.heap.size,0,none⟩) n n) (u.alloc (.cells (zeros n) 70)) := by
 obtain ⟨i0,hi,hz0,hz1,hz2⟩ := info_parts info
 have h := run_make (P := Tryz.prog) u 27 70 i0 zeroV Tryz.underlying27 hi hz0 .i64 .i64 (n : Int) (n : Int) (by omega) (Int.le_refl _) (by rw [hz2]; omega) (by omega)
 rw [hz1,Int.toNat_natCast,made] at h
 exact h
theorem block_made (u : World) (n : Nat) : Block (u.alloc (.cells (zeros n) 70)) u.heap.size (List.replicate n zero) := heap_alloc_new u _
theorem copy (u : World) (g : Nat) (ts : List T) (dCap : Nat) (ao : Option Addr) (n cap : Nat) (rs : List T) (hb : Block u g (List.replicate n zero ++ ts)) (hn : n = rs.length) (hs : Seg u ao rs) :
  ∃ u',(Builtin.copy_ #[27,27] 3 #[.slice (some ⟨g,0,none⟩) (n + ts.length) dCap,.slice ao n cap]).run Tryz.prog u = .ok (goInt n) u' ∧ Block u' g (rs ++ ts) ∧ (∀ B w0,Below B w0 u → B ≤ g → Below B w0 u') ∧ u'.heap.size = u.heap.size := by
 obtain ⟨i0,hi,hiK⟩ := Option.map_eq_some_iff.1 sizeZ
 have hmin : Nat.min n (n + ts.length) = n := Nat.min_eq_left (by omega)
 rcases hs with e | ⟨b,off,rfl,hc⟩
 ·
  subst e
  obtain rfl : n = 0 := hn
  refine ⟨u,?_,by simpa using hb,fun _ _ h _ => h,rfl⟩
  have hl : ∀ (x : Addr),(loadCells x 0).run Tryz.prog u = .ok #[] u := fun x => by simpa using run_loadCells_list (P := Tryz.prog) u x [] (by simp)
  cases ao <;> simp [Builtin.copy_,run_underlying Tryz.underlying27,Builtin.lenOf,Builtin.firstCells,sizeOf,typeInfo,hi,storeCells,hl]
 ·
  have hl := run_loadCells_list (P := Tryz.prog) u ⟨b,off,none⟩ (rs.flatMap rv) (fun j v hv => news_of hc j v hv)
  have hst := run_storeCells_at Tryz.prog g 0 70 (rs.flatMap rv) 0 _ u hb (by rw [List.size_toArray,flat_len,flat_len,List.length_append,List.length_replicate]; omega) (one_cell rs)
  have hlen : (rs.flatMap rv).length = n * 2 := by rw [flat_len,hn]
  have e : (((List.replicate n zero ++ ts).flatMap rv).toArray.toList.take (0 + 0) ++ rs.flatMap rv ++ ((List.replicate n zero ++ ts).flatMap rv).toArray.toList.drop (0 + 0 + (rs.flatMap rv).length)) = (rs ++ ts).flatMap rv := by
   rw [List.toList_toArray,List.take_zero,List.nil_append,Nat.zero_add,hlen,List.flatMap_append,List.flatMap_append,List.drop_left' (by rw [flat_len,List.length_replicate])]
  rw [e] at hst
  refine ⟨u.setRow g ((rs ++ ts).flatMap rv).toArray,?_,setRow_heap u g _ _ 70 _ hb,fun B w0 h hB => below_setRow h hB _,by simp [World.setRow]⟩
  rw [hlen] at hl
  simp [Builtin.copy_,run_underlying Tryz.underlying27,Builtin.lenOf,Builtin.firstCells,sizeOf,typeInfo,hi,hiK,hmin,hl,hst]
theorem set_right {a : T} (X : List Value) (k p : Nat) (v : Value) : (rv a ++ X).set ((k + 1) * 2 + p) v = rv a ++ X.set (k * 2 + p) v := by
 rw [List.set_append_right _ _ (by rw [rv_len]; omega),rv_len,show (k + 1) * 2 + p - 2 = k * 2 + p by omega]
theorem flat_set : ∀ (ts : List T) (k : Nat) (r : T),k < ts.length → (ts.set k r).flatMap rv = (((ts.flatMap rv).set (k * 2) (.string r.acct)).set (k * 2 + 1) (.int .i64 r.amt))
 | a :: l,0,r,_ => rfl
 | a :: l,k + 1,r,h => by
  have ih := flat_set l k r (by simpa using h)
  have e0 := fun (X : List Value) (v : Value) => set_right (a := a) X k 0 v
  simp only [Nat.add_zero] at e0
  rw [List.set_cons_succ,List.flatMap_cons,ih,List.flatMap_cons,e0,set_right]
theorem below_store {B g : Nat} {w0 w : World} (h : Below B w0 w) (hg : B ≤ g) (k : Nat) (x0 x1 : Value) :
  Below B w0 ((w.setCell ⟨g,k * 2,none⟩ x0).setCell ⟨g,k * 2 + 1,none⟩ x1) :=
 ((h.setCell hg x0).setCell hg x1)
theorem own_store {w : World} {B g n cap : Nat} {M : List T} (h : Own w B (.slice (some ⟨g,0,none⟩) n cap) M) (k : Nat) (hk : k < M.length) (r : T) :
  Own ((w.setCell ⟨g,k * 2,none⟩ (.string r.acct)).setCell ⟨g,k * 2 + 1,none⟩ (.int .i64 r.amt)) B (.slice (some ⟨g,0,none⟩) n cap) (M.set k r) := by
 rcases h.2 with ⟨h',_⟩ | ⟨g',cap',cur,h',hb,hg,hnc,hcm,hcs,htake⟩
 · cases h'
 ·
  simp only [Value.slice.injEq,Option.some.injEq,Addr.mk.injEq,and_true] at h'
  obtain ⟨e1,e2,e3⟩ := h'
  subst e1 e3
  have h1 := heap_setCell_same _ g (k * 2) _ _ (.string r.acct) hg
  have h2 := heap_setCell_same _ g (k * 2 + 1) _ _ (.int .i64 r.amt) h1
  refine ⟨by rw [flat_len],.inr ⟨g,cap,_,by rw [List.length_set,e2],hb,h2,by rw [List.length_set]; exact hnc,hcm,by simpa using hcs,?_⟩⟩
  rw [List.length_set,flat_set M k r hk]
  simp only [Array.toList_setIfInBounds]
  rw [← htake]
  simp only [List.take_set]
theorem own_at {w : World} {B g n cap : Nat} {M : List T} (h : Own w B (.slice (some ⟨g,0,none⟩) n cap) M) (k : Nat) (hk : k < M.length) : At w g (k * 2) M[k] ∧ (∀ o,w.frozen? ⟨g,o,none⟩ = false) ∧ B ≤ g := by
 rcases h.2 with ⟨h',_⟩ | ⟨g',cap',cur,h',hb,hg,hnc,hcm,hcs,htake⟩
 · cases h'
 ·
  simp only [Value.slice.injEq,Option.some.injEq,Addr.mk.injEq,and_true] at h'
  obtain ⟨e1,e2,e3⟩ := h'
  subst e1 e3
  have hcell : ∀ p,p < 2 → w.cell? ⟨g,k * 2 + p,none⟩ = (rv M[k])[p]? := by
   intro p hp
   rw [cell_of_row w g _ _ _ _ hg,← flat_at M k p hk hp,← htake,List.getElem?_take_of_lt (by omega)]
   simp
  exact ⟨⟨hcell 0 (by omega),hcell 1 (by omega)⟩,fun o => frozen_of_row w g o _ _ hg,hb⟩
theorem flat_put (r : T) (p : Nat) (x : Value) (hp : p < 2) : ∀ (M : List T) (k : Nat) (hk : k < M.length),rv r = (rv M[k]).set p x → (M.set k r).flatMap rv = (M.flatMap rv).set (k * 2 + p) x
 | a :: l,0,_,h => by
  have h' : rv r = (rv a).set p x := h
  rw [List.set_cons_zero,List.flatMap_cons,List.flatMap_cons,Nat.zero_mul,Nat.zero_add,List.set_append_left _ _ (by rw [rv_len]; exact hp),h']
 | a :: l,k + 1,hk,h => by
  have ih := flat_put r p x hp l k (by simpa using hk) (by simpa using h)
  rw [List.set_cons_succ,List.flatMap_cons,List.flatMap_cons,List.set_append_right _ _ (by rw [rv_len]; omega),rv_len,show (k + 1) * 2 + p - 2 = k * 2 + p by omega,ih]
theorem own_put {w : World} {B g n cap : Nat} {M : List T} (h : Own w B (.slice (some ⟨g,0,none⟩) n cap) M) (k p : Nat) (hk : k < M.length) (hp : p < 2) (x : Value) (r : T) (hr : rv r = (rv M[k]).set p x) :
  Own (w.setCell ⟨g,k * 2 + p,none⟩ x) B (.slice (some ⟨g,0,none⟩) n cap) (M.set k r) := by
 rcases h.2 with ⟨h',_⟩ | ⟨g',cap',cur,h',hb,hg,hnc,hcm,hcs,htake⟩
 · cases h'
 ·
  simp only [Value.slice.injEq,Option.some.injEq,Addr.mk.injEq,and_true] at h'
  obtain ⟨e1,e2,e3⟩ := h'
  subst e1 e3
  have h1 := heap_setCell_same _ g (k * 2 + p) _ _ x hg
  refine ⟨by rw [flat_len],.inr ⟨g,cap,_,by rw [List.length_set,e2],hb,h1,by rw [List.length_set]; exact hnc,hcm,by simpa using hcs,?_⟩⟩
  rw [List.length_set,flat_put r p x hp M k hk hr]
  simp only [Array.toList_setIfInBounds]
  rw [← htake]
  simp only [List.take_set]
theorem own_of_block {w : World} {B g n : Nat} {M : List T} (h : Block w g M) (hB : B ≤ g) (hn : n = M.length) (hm : n ≤ 100000) : Own w B (.slice (some ⟨g,0,none⟩) n n) M := by
 subst hn
 exact ⟨by rw [flat_len],.inr ⟨g,M.length,_,rfl,hB,h,Nat.le_refl _,by have : maxLen = 9223372036854775807 := rfl; omega,by rw [List.size_toArray,flat_len],List.take_of_length_le (by show (M.flatMap rv).length ≤ _; rw [flat_len]; exact Nat.le_refl _)⟩⟩
end Go.Proofs.YtillcleccjgocaaGreat.Ba
namespace Go.Proofs.YtillcleccjgocaaGreat
open Go.RowKit
theorem drop_ne (s : ByteArray) (pos : Nat) (h : pos < s.size) : (txt s).drop pos ≠ [] := by
 intro e
 have := congrArg List.length e
 rw [List.length_drop,txt_len,List.length_nil] at this
 omega
theorem drop_end (s : ByteArray) (pos : Nat) (h : ¬ pos < s.size) : (txt s).drop pos = [] :=
 List.drop_eq_nil_of_le (by rw [txt_len]; omega)
theorem dec_at (s : ByteArray) (pos : Nat) : Lib.decodeL ((txt s).drop pos) = Utf8.decode s pos := Lib.decodeL_drop s pos
theorem dec_pos (s : ByteArray) (pos : Nat) : 1 ≤ (Utf8.decode s pos).2 := Lib.width_pos s pos
theorem dec_le (s : ByteArray) (pos : Nat) (h : pos < s.size) : pos + (Utf8.decode s pos).2 ≤ s.size := by
 have := Rn.dle _ (drop_ne s pos h)
 rw [dec_at,List.length_drop,txt_len] at this
 omega
theorem runes_at (s : ByteArray) (pos : Nat) (h : pos < s.size) : Rn.runes ((txt s).drop pos) = (Utf8.decode s pos).1 :: Rn.runes ((txt s).drop (pos + (Utf8.decode s pos).2)) := by
 rw [Rn.runes_step _ (drop_ne s pos h),dec_at,List.drop_drop]
theorem runes_end (s : ByteArray) (pos : Nat) (h : ¬ pos < s.size) : Rn.runes ((txt s).drop pos) = [] := by rw [drop_end s pos h]; rfl
theorem below_iter (w : World) (s : ByteArray) (pos : Nat) : Below w.heap.size w (w.iter s pos) := (Below.refl _ _).alloc (Nat.le_refl _) _
theorem name_long (s : ByteArray) (h : s.toList = [] ∨ 24 < s.size) : Rn.name (txt s) = false := by
 unfold Rn.name
 rcases h with h | h
 · rw [← tl,h]; rfl
 ·
  rw [show decide ((txt s).length ≤ 24) = false from decide_eq_false (by rw [txt_len]; omega)]
  simp
theorem name_short (s : ByteArray) (h : s.toList ≠ []) (h2 : s.size ≤ 24) : Rn.name (txt s) = Rn.nameOk true (Rn.runes (txt s)) := by
 unfold Rn.name
 rw [show decide ((txt s).length ≤ 24) = true from decide_eq_true (by rw [txt_len]; omega)]
 rw [tl] at h
 cases e : txt s with
 | nil => exact absurd e h
 | cons _ _ => rfl
end Go.Proofs.YtillcleccjgocaaGreat
namespace Go.Proofs.YtillcleccjgocaaGreat
open Go.RowKit
theorem sign_within (r a b : Int) (w : World) :
  Calls Tryz.prog 173 #[.int .i32 r,.int .i32 a,.int .i32 b] w fun e w' => e = .returned (.bool (decide (a ≤ r ∧ r ≤ b))) ∧ w' = w := by
 go_enter Tryz.func173,Tryz.ntmps173
 by_cases h1 : a ≤ r
 ·
  go_wp2
  go_ret
  exact ⟨ret_bool (by simp [h1]),rfl⟩
 ·
  go_wp2
  go_ret
  refine ⟨ret_bool ?_,rfl⟩
  rw [Bool.eq_iff_iff]
  simp
  omega
theorem digit_any (r : Int) (w : World) :
  Calls Tryz.prog 174 #[.int .i32 r] w fun e w' => e = .returned (.bool (Rn.digit r)) ∧ w' = w := by
 go_enter Tryz.func174,Tryz.ntmps174
 go_wp2_with fail
 refine (sign_within _ _ _ _).mono ?_
 rintro e _ ⟨rfl,rfl⟩
 go_wp2
 go_ret
 exact ⟨ret_bool (by simp [Rn.digit]),rfl⟩
theorem inner_any (r : Int) (w : World) :
  Calls Tryz.prog 152 #[.int .i32 r] w fun e w' => e = .returned (.bool (Rn.inner r)) ∧ w' = w := by
 go_enter Tryz.func152,Tryz.ntmps152
 go_wp2_with fail
 refine (digit_any _ _).mono ?_
 rintro e _ ⟨rfl,rfl⟩
 cases hd : Rn.digit r
 ·
  by_cases h1 : r = 45
  ·
   subst h1
   go_wp2
   go_ret
   exact ⟨rfl,rfl⟩
  ·
   by_cases h2 : r = 95
   ·
    subst h2
    go_wp2
    go_ret
    exact ⟨rfl,rfl⟩
   ·
    go_wp2
    go_ret
    refine ⟨ret_bool ?_,rfl⟩
    rw [Bool.eq_iff_iff]
    simp [Rn.inner,hd,h1,h2]
 ·
  go_wp2
  go_ret
  exact ⟨ret_bool (by simp [Rn.inner,hd]),rfl⟩
theorem letter_any (r : Int) (w : World) :
  Calls Tryz.prog 151 #[.int .i32 r] w fun e w' => e = .returned (.bool (Rn.letter r)) ∧ w' = w := by
 go_enter Tryz.func151,Tryz.ntmps151
 go_wp2_with fail
 refine (sign_within _ _ _ _).mono ?_
 rintro e _ ⟨rfl,rfl⟩
 by_cases h1 : 97 ≤ r ∧ r ≤ 122
 ·
  rw [show decide (97 ≤ r ∧ r ≤ 122) = true from decide_eq_true h1]
  go_wp2
  go_ret
  exact ⟨ret_bool (by simp [Rn.letter,h1]),rfl⟩
 ·
  rw [show decide (97 ≤ r ∧ r ≤ 122) = false from decide_eq_false h1]
  go_wp2_with fail
  refine (sign_within _ _ _ _).mono ?_
  rintro e _ ⟨rfl,rfl⟩
  by_cases h2 : 65 ≤ r ∧ r ≤ 90
  ·
   rw [show decide (65 ≤ r ∧ r ≤ 90) = true from decide_eq_true h2]
   go_wp2
   go_ret
   exact ⟨ret_bool (by simp [Rn.letter,h2]),rfl⟩
  ·
   rw [show decide (65 ≤ r ∧ r ≤ 90) = false from decide_eq_false h2]
   go_wp2_with fail
   refine (sign_within _ _ _ _).mono ?_
   rintro e _ ⟨rfl,rfl⟩
   by_cases h3 : 192 ≤ r ∧ r ≤ 591
   ·
    rw [show decide (192 ≤ r ∧ r ≤ 591) = true from decide_eq_true h3]
    by_cases h4 : r = 215
    ·
     subst h4
     go_wp2
     go_ret
     exact ⟨rfl,rfl⟩
    ·
     go_wp2
     go_ret
     refine ⟨ret_bool ?_,rfl⟩
     rw [Bool.eq_iff_iff]
     simp [Rn.letter]
     omega
   ·
    rw [show decide (192 ≤ r ∧ r ≤ 591) = false from decide_eq_false h3]
    go_wp2
    go_ret
    refine ⟨ret_bool ?_,rfl⟩
    symm
    simp only [Rn.letter,Bool.or_eq_false_iff,decide_eq_false_iff_not]
    omega
set_option maxHeartbeats 1000000 in
theorem name_any (s : ByteArray) (w : World) (hs : s.size ≤ 140737488355328) :
  Calls Tryz.prog 112 #[.string s] w fun e w' => e = .returned (.bool (Rn.name (txt s))) ∧ Below w.heap.size w w' := by
 by_cases hn : s.toList = []
 ·
  have HN : Hid (Rn.name (txt s) = false) := name_long s (.inl hn)
  go_enter Tryz.func112,Tryz.ntmps112
  go_wp2
  go_ret
  exact ⟨ret_bool HN.out.symm,Below.refl _ _⟩
 have hn2 : s.toList.isEmpty = false := by cases e : s.toList with | nil => exact absurd e hn | cons _ _ => rfl
 by_cases h24 : 24 < s.size
 ·
  have HN : Hid (Rn.name (txt s) = false) := name_long s (.inr h24)
  go_enter Tryz.func112,Tryz.ntmps112
  go_wp2
  go_ret
  exact ⟨ret_bool HN.out.symm,Below.refl _ _⟩
 have HN : Hid (Rn.name (txt s) = Rn.nameOk true (Rn.runes (txt s))) := name_short s hn (by omega)
 go_enter Tryz.func112,Tryz.ntmps112
 go_wp2
 clear hn hn2
 go_loopw [3,4] (fun _ _ w' => ∃ (pos : Nat),w' = w.iter s pos ∧ Hid (Rn.nameOk (decide (pos = 0)) (Rn.runes ((txt s).drop pos)) = Rn.nameOk true (Rn.runes (txt s))) ∧ pos ≤ s.size) (fun _ _ w' => s.size - w'.iterPos w.heap.size)
 case atStart => exact ⟨0,rfl,by show _ = _; simp,by omega⟩
 case round =>
  obtain ⟨pos,rfl,HC,hb⟩ := hrel
  by_cases hp : pos < s.size
  ·
   have hnx : ∀ ty,(Instr.next (.pointer (some ⟨w.heap.size,0,none⟩)) true ty).run Tryz.prog (w.iter s pos) = _ := fun ty => run_next_any w s pos ty hp
   have hwd := dec_pos s pos
   have hle := dec_le s pos hp
   have HS : Hid (Rn.nameOk (decide (pos = 0)) (Rn.runes ((txt s).drop pos)) = ((Rn.letter ((Utf8.decode s pos).1 : Int) || (!decide (pos = 0) && Rn.inner ((Utf8.decode s pos).1 : Int))) && Rn.nameOk (decide (pos + (Utf8.decode s pos).2 = 0)) (Rn.runes ((txt s).drop (pos + (Utf8.decode s pos).2))))) := by
    show _ = _
    rw [runes_at s pos hp,Rn.nameOk,show decide (pos + (Utf8.decode s pos).2 = 0) = false from decide_eq_false (by omega)]
   go_wp2_with fail
   refine (letter_any _ _).mono ?_
   rintro e _ ⟨rfl,rfl⟩
   cases hL : Rn.letter ((Utf8.decode s pos).1 : Int)
   ·
    by_cases h0 : pos = 0
    ·
     go_wp2
     go_ret
     refine ⟨ret_bool ?_,below_iter w s _⟩
     rw [HN.out,← HC.out,HS.out,hL]
     simp [h0]
    ·
     go_wp2_with fail
     refine (inner_any _ _).mono ?_
     rintro e _ ⟨rfl,rfl⟩
     cases hI : Rn.inner ((Utf8.decode s pos).1 : Int)
     ·
      go_wp2
      go_ret
      refine ⟨ret_bool ?_,below_iter w s _⟩
      rw [HN.out,← HC.out,HS.out,hL,hI]
      simp
     ·
      go_wp2
      go_roundw
      case rel =>
       refine ⟨pos + (Utf8.decode s pos).2,rfl,?_,by omega⟩
       show _ = _
       rw [← HC.out,HS.out,hL,hI]
       simp [h0]
      case measure =>
       simp
       omega
   ·
    go_wp2
    go_roundw
    case rel =>
     refine ⟨pos + (Utf8.decode s pos).2,rfl,?_,by omega⟩
     show _ = _
     rw [← HC.out,HS.out,hL]
     simp
    case measure =>
     simp
     omega
  ·
   have hnx : ∀ ty,(Instr.next (.pointer (some ⟨w.heap.size,0,none⟩)) true ty).run Tryz.prog (w.iter s pos) = _ := fun ty => run_next_end w s pos ty hp
   go_wp2
   go_ret
   refine ⟨ret_bool ?_,below_iter w s pos⟩
   rw [HN.out,← HC.out,runes_end s pos hp]
   rfl
theorem name_gen (s : ByteArray) (w0 w : World) (hb : Below w0.heap.size w0 w) (hs : s.size ≤ 140737488355328) :
  Calls Tryz.prog 112 #[.string s] w fun e w' => e = .returned (.bool (Rn.name (txt s))) ∧ Below w0.heap.size w0 w' :=
 (name_any s w hs).mono fun _ _ ⟨h1,h2⟩ => ⟨h1,hb.trans (h2.mono hb.size)⟩
end Go.Proofs.YtillcleccjgocaaGreat
namespace Go.Proofs.YtillcleccjgocaaGreat
open Go.RowKit
theorem leap_date (y : Int) (w : World) (h0 : 0 ≤ y) (h1 : y ≤ 10000) :
  Calls Tryz.prog 154 #[.int .i64 y] w fun e w' => e = .returned (.bool (Dt.leapB y)) ∧ w' = w := by
 go_enter Tryz.func154,Tryz.ntmps154
 by_cases a1 : y % 4 = 0
 ·
  by_cases a2 : y % 100 = 0
  ·
   have a3 : (y % 100 != 0) = false := by rw [a2]; rfl
   go_wp2
   go_ret
   refine ⟨ret_bool ?_,rfl⟩
   rw [Bool.eq_iff_iff,Dt.leap_iff,beq_iff_eq]
   omega
  ·
   have a3 : (y % 100 != 0) = true := bne_iff_ne.2 a2
   go_wp2
   go_ret
   exact ⟨ret_bool ((Dt.leap_iff y).2 ⟨a1,.inl a2⟩).symm,rfl⟩
 ·
  have a2 : (y % 4 == 0) = false := beq_eq_false_iff_ne.2 a1
  go_wp2
  go_ret
  refine ⟨ret_bool ?_,rfl⟩
  rw [Bool.eq_iff_iff,Dt.leap_iff,beq_iff_eq]
  omega
theorem length_date (y m : Int) (w : World) (h0 : 0 ≤ y) (h1 : y ≤ 10000) :
  Calls Tryz.prog 117 #[.int .i64 y,.int .i64 m] w fun e w' => e = .returned (.int .i64 (Dt.len y m)) ∧ w' = w := by
 by_cases h : m < 1 ∨ 12 < m
 ·
  have HL := Lib.hid (Dt.len_0 (y := y) h)
  have e1 : (m == 1) = false := beq_eq_false_iff_ne.2 (by omega)
  have e2 : (m == 2) = false := beq_eq_false_iff_ne.2 (by omega)
  have e3 : (m == 3) = false := beq_eq_false_iff_ne.2 (by omega)
  have e4 : (m == 4) = false := beq_eq_false_iff_ne.2 (by omega)
  have e5 : (m == 5) = false := beq_eq_false_iff_ne.2 (by omega)
  have e6 : (m == 6) = false := beq_eq_false_iff_ne.2 (by omega)
  have e7 : (m == 7) = false := beq_eq_false_iff_ne.2 (by omega)
  have e8 : (m == 8) = false := beq_eq_false_iff_ne.2 (by omega)
  have e9 : (m == 9) = false := beq_eq_false_iff_ne.2 (by omega)
  have e10 : (m == 10) = false := beq_eq_false_iff_ne.2 (by omega)
  have e11 : (m == 11) = false := beq_eq_false_iff_ne.2 (by omega)
  have e12 : (m == 12) = false := beq_eq_false_iff_ne.2 (by omega)
  clear h
  go_enter Tryz.func117,Tryz.ntmps117
  go_wp2_with fail
  go_ret
  exact ⟨ret_int HL.out.symm,rfl⟩
 ·
  have hm : m = 1 ∨ m = 2 ∨ m = 3 ∨ m = 4 ∨ m = 5 ∨ m = 6 ∨ m = 7 ∨ m = 8 ∨ m = 9 ∨ m = 10 ∨ m = 11 ∨ m = 12 := by omega
  clear h
  by_cases h2 : m = 2
  ·
   subst h2
   clear hm
   by_cases hl : Dt.leapB y = true
   ·
    have HL : Hid (Dt.len y 2 = 29) := Lib.hid (by rw [Dt.len_2,Dt.lp_true hl]; rfl)
    go_enter Tryz.func117,Tryz.ntmps117
    go_wp2_with fail
    refine (leap_date y _ h0 h1).mono ?_
    rintro e w1 ⟨rfl,hw1⟩
    subst hw1
    rw [hl]
    go_wp2_with fail
    go_ret
    exact ⟨ret_int HL.out.symm,rfl⟩
   ·
    have hl' : Dt.leapB y = false := by simpa using hl
    have HL : Hid (Dt.len y 2 = 28) := Lib.hid (by rw [Dt.len_2,Dt.lp_false hl']; rfl)
    clear hl
    go_enter Tryz.func117,Tryz.ntmps117
    go_wp2_with fail
    refine (leap_date y _ h0 h1).mono ?_
    rintro e w1 ⟨rfl,hw1⟩
    subst hw1
    rw [hl']
    go_wp2_with fail
    go_ret
    exact ⟨ret_int HL.out.symm,rfl⟩
  ·
   by_cases h3 : m = 4 ∨ m = 6 ∨ m = 9 ∨ m = 11
   ·
    have HL := Lib.hid (Dt.len_30 (y := y) h3)
    clear hm h2
    rcases h3 with rfl | rfl | rfl | rfl
    all_goals
     go_enter Tryz.func117,Tryz.ntmps117
     go_wp2_with fail
     go_ret
     exact ⟨ret_int HL.out.symm,rfl⟩
   ·
    have h4 : m = 1 ∨ m = 3 ∨ m = 5 ∨ m = 7 ∨ m = 8 ∨ m = 10 ∨ m = 12 := by omega
    have HL := Lib.hid (Dt.len_31 (y := y) h4)
    clear hm h2 h3
    rcases h4 with rfl | rfl | rfl | rfl | rfl | rfl | rfl
    all_goals
     go_enter Tryz.func117,Tryz.ntmps117
     go_wp2_with fail
     go_ret
     exact ⟨ret_int HL.out.symm,rfl⟩
theorem within_date (n a b : Int) (w : World) :
  Calls Tryz.prog 116 #[.int .i64 n,.int .i64 a,.int .i64 b] w fun e w' => e = .returned (.bool (decide (a ≤ n ∧ n ≤ b))) ∧ w' = w := by
 go_enter Tryz.func116,Tryz.ntmps116
 by_cases h1 : a ≤ n
 ·
  go_wp2
  go_ret
  exact ⟨ret_bool (by simp [h1]),rfl⟩
 ·
  go_wp2
  go_ret
  refine ⟨ret_bool ?_,rfl⟩
  rw [Bool.eq_iff_iff]
  simp
  omega
end Go.Proofs.YtillcleccjgocaaGreat
namespace Go.Proofs.YtillcleccjgocaaGreat
open Go.RowKit
theorem right_years {y m d : Int} (h : 1 ≤ y ∧ y ≤ 9999) : Dt.rightB y m d = decide (1 ≤ d ∧ d ≤ Dt.len y m) := by
 unfold Dt.rightB
 rw [Bool.eq_iff_iff,decide_eq_true_iff,decide_eq_true_iff]
 exact ⟨fun k => k.2.2,fun k => ⟨h.1,h.2,k⟩⟩
theorem right_noyear {y m d : Int} (h : ¬ (1 ≤ y ∧ y ≤ 9999)) : Dt.rightB y m d = false := by
 rw [Bool.eq_false_iff]
 intro k
 rw [Dt.right_iff] at k
 omega
set_option maxHeartbeats 1000000 in
theorem right_date (y m d : Int) (w0 w : World) (hw : Below w0.heap.size w0 w) (_hy : Fit y) (_hm : Fit m) (_hd : Fit d) :
  Calls Tryz.prog 75 #[dayV y m d] w fun e w' => e = .returned (.bool (Dt.rightB y m d)) ∧ Below w0.heap.size w0 w' := by
 have HW := Lib.hid hw
 clear hw
 unfold dayV
 by_cases h1 : 1 ≤ y ∧ y ≤ 9999
 ·
  have HR := Lib.hid (right_years (m := m) (d := d) h1)
  have hd1 : decide (1 ≤ y ∧ y ≤ 9999) = true := decide_eq_true h1
  go_enter Tryz.func75,Tryz.ntmps75
  go_wp2
  go_quiet (first | (go_at_call 117; exact Calls.quiet_of_same (length_date _ _ _ (by omega) (by omega))) | (go_at_call 116; exact Calls.quiet_of_same (within_date _ _ _ _)))
  go_wp2
  go_ret
  exact ⟨ret_bool (by rw [HR.out,Bool.decide_and]),below_drewN (below_box HW.out _) _⟩
 ·
  have HR := Lib.hid (right_noyear (m := m) (d := d) h1)
  have hd1 : decide (1 ≤ y ∧ y ≤ 9999) = false := decide_eq_false h1
  go_enter Tryz.func75,Tryz.ntmps75
  go_wp2
  go_quiet (first | (go_at_call 117; exact Calls.quiet_of_same (length_date _ _ _ (by omega) (by omega))) | (go_at_call 116; exact Calls.quiet_of_same (within_date _ _ _ _)))
  go_wp2
  go_ret
  exact ⟨ret_bool HR.out.symm,below_drewN (below_box HW.out _) _⟩
theorem ahead_date (y : Int) (w : World) (h0 : 1 ≤ y) (h1 : y ≤ 10000) :
  Calls Tryz.prog 175 #[.int .i64 y] w fun e w' => e = .returned (.int .i64 (Dt.yd y)) ∧ w' = w := by
 have HY : Hid (Dt.yd y = (y - 1) * 365 + (y - 1) / 4 - (y - 1) / 100 + (y - 1) / 400) := Lib.hid (by unfold Dt.yd; omega)
 go_enter Tryz.func175,Tryz.ntmps175
 go_wp2
 go_ret
 exact ⟨ret_int HY.out.symm,rfl⟩
set_option maxHeartbeats 1000000 in
theorem days_date (y m d : Int) (w0 w : World) (hw : Below w0.heap.size w0 w) (hy : Fit y) (hm : Fit m) (hd : Fit d) :
  Calls Tryz.prog 153 #[dayV y m d] w fun e w' => e = .returned (.int .i64 (Dt.days y m d)) ∧ Below w0.heap.size w0 w' := by
 have HW := Lib.hid hw
 clear hw
 by_cases h : Dt.rightB y m d = true
 ·
  rw [Dt.days_right h]
  obtain ⟨h1,h2,h3,h4,h5,h6⟩ := Dt.right_bd h
  have hn := Lib.hid (Dt.num_bd h)
  obtain ⟨hy0,hy1⟩ := Dt.yd_bd h1 (show y ≤ 10000 by omega)
  unfold dayV
  go_enter Tryz.func153,Tryz.ntmps153
  go_wp2_with fail
  refine (right_date y m d _ _ (Below.refl _ _) hy hm hd).mono ?_
  rintro e w1 ⟨rfl,b1⟩
  have HB1 := Lib.hid ((below_box HW.out _).trans (b1.mono (below_box HW.out _).size))
  obtain ⟨hc,hf⟩ := bcell b1
  clear b1 hy hm hd
  rw [h]
  go_wp2
  go_quiet ((go_at_call 175; exact Calls.quiet_of_same (ahead_date _ _ (by omega) (by omega))))
  go_wp2
  go_loop [3,4] (fun n i => ∃ k : Int,1 ≤ k ∧ k ≤ m ∧ i = .int .i64 k ∧ n = .int .i64 (Dt.yd y + d - 1 + Dt.cum y k)) (fun _ i => (m - intOf i).toNat)
  case atStart => exact ⟨1,by omega,h3,rfl,by rw [Dt.cum_1,Int.add_zero]⟩
  case round =>
   obtain ⟨k,hk0,hk1,rfl,rfl⟩ := hrel
   have hcb := Dt.cum_bd (y := y) hk0 (show k ≤ 13 by omega)
   by_cases hlt : k < m
   ·
    have hlb := Dt.len_bd y k
    have HS := Lib.hid (Dt.cum_succ y k hk0 (by omega))
    go_wp2_with fail
    refine (length_date y k _ (by omega) (by omega)).mono ?_
    rintro e w2 ⟨rfl,hw2⟩
    subst hw2
    go_wp2
    go_round
    case rel => exact ⟨k + 1,by omega,by omega,rfl,by rw [HS.out,← Int.add_assoc]⟩
    case measure => simp [intOf]; omega
   ·
    obtain rfl : k = m := by omega
    go_wp2
    go_ret
    exact ⟨ret_int (by unfold Dt.num; omega),below_drewN HB1.out _⟩
 ·
  have h' : Dt.rightB y m d = false := by simpa using h
  rw [Dt.days_not h']
  unfold dayV
  go_enter Tryz.func153,Tryz.ntmps153
  go_wp2_with fail
  refine (right_date y m d w0 _ (below_box HW.out _) hy hm hd).mono ?_
  rintro e w1 ⟨rfl,b1⟩
  have HB1 := Lib.hid b1
  clear b1
  rw [h']
  go_wp2
  go_ret
  exact ⟨rfl,HB1.out⟩
end Go.Proofs.YtillcleccjgocaaGreat
namespace Go.Proofs.YtillcleccjgocaaGreat
open Go.RowKit
def aheadB (y m d z n e : Int) : Bool := Dt.rightB y m d && Dt.rightB z n e && decide (Dt.num y m d < Dt.num z n e)
theorem ahead_not1 {y m d z n e : Int} (h : Dt.rightB y m d = false) : aheadB y m d z n e = false := by
 unfold aheadB
 rw [h]
 rfl
theorem ahead_not2 {y m d z n e : Int} (h : Dt.rightB z n e = false) : aheadB y m d z n e = false := by
 unfold aheadB
 rw [h,Bool.and_false]
 rfl
theorem ahead_both {y m d z n e : Int} (h : Dt.rightB y m d = true) (k : Dt.rightB z n e = true) : aheadB y m d z n e = decide (Dt.days y m d < Dt.days z n e) := by
 unfold aheadB
 rw [h,k,Dt.days_right h,Dt.days_right k]
 rfl
set_option maxHeartbeats 1000000 in
theorem before_date (y m d z n e : Int) (w0 w : World) (hw : Below w0.heap.size w0 w) (hy : Fit y) (hm : Fit m) (hd : Fit d) (hz : Fit z) (hn : Fit n) (he : Fit e) :
  Calls Tryz.prog 113 #[dayV y m d,dayV z n e] w fun en w' => en = .returned (.bool (aheadB y m d z n e)) ∧ Below w0.heap.size w0 w' := by
 have HW := Lib.hid hw
 have HF := Lib.hid (And.intro hy (And.intro hm (And.intro hd (And.intro hz (And.intro hn he)))))
 clear hw hy hm hd hz hn he
 unfold dayV
 obtain ⟨W,hW⟩ : ∃ W,(w.alloc (.cells #[.int .i64 y,.int .i64 m,.int .i64 d] 61)).alloc (.cells #[.int .i64 z,.int .i64 n,.int .i64 e] 61) = W := ⟨_,rfl⟩
 have HBW : Hid (Below w0.heap.size w0 W) := Lib.hid (hW ▸ below_box (below_box HW.out _) _)
 have l0 : ∀ u,Below W.heap.size W u → u.cell? ⟨w.heap.size,0,none⟩ = some (.int .i64 y) ∧ u.cell? ⟨w.heap.size,1,none⟩ = some (.int .i64 m) ∧ u.cell? ⟨w.heap.size,2,none⟩ = some (.int .i64 d) := fun u hb => by
  rw [(bcell hb).1 _ _ (by rw [← hW]; simp; omega),(bcell hb).1 _ _ (by rw [← hW]; simp; omega),(bcell hb).1 _ _ (by rw [← hW]; simp; omega),← hW]
  simp [go_sem]
 have l1 : ∀ u,Below W.heap.size W u → u.cell? ⟨w.heap.size + 1,0,none⟩ = some (.int .i64 z) ∧ u.cell? ⟨w.heap.size + 1,1,none⟩ = some (.int .i64 n) ∧ u.cell? ⟨w.heap.size + 1,2,none⟩ = some (.int .i64 e) := fun u hb => by
  rw [(bcell hb).1 _ _ (by rw [← hW]; simp),(bcell hb).1 _ _ (by rw [← hW]; simp),(bcell hb).1 _ _ (by rw [← hW]; simp),← hW]
  simp [go_sem]
 by_cases h1 : Dt.rightB y m d = true
 ·
  by_cases h2 : Dt.rightB z n e = true
  ·
   rw [ahead_both h1 h2]
   go_enter Tryz.func113,Tryz.ntmps113
   go_wp2
   go_region_held3 (fun u => Below W.heap.size W u) (first | assumption | exact (Below.refl _ _).drew) (first | (go_at_call 75; refine (right_date _ _ _ W _ (by assumption) (by first | exact HF.out.1 | exact HF.out.2.1 | exact HF.out.2.2.1 | exact HF.out.2.2.2.1 | exact HF.out.2.2.2.2.1 | exact HF.out.2.2.2.2.2) (by first | exact HF.out.1 | exact HF.out.2.1 | exact HF.out.2.2.1 | exact HF.out.2.2.2.1 | exact HF.out.2.2.2.2.1 | exact HF.out.2.2.2.2.2) (by first | exact HF.out.1 | exact HF.out.2.1 | exact HF.out.2.2.1 | exact HF.out.2.2.2.1 | exact HF.out.2.2.2.2.1 | exact HF.out.2.2.2.2.2)).mono ?_; rintro en w' ⟨rfl,b⟩) | (go_at_call 153; refine (days_date _ _ _ W _ (by assumption) (by first | exact HF.out.1 | exact HF.out.2.1 | exact HF.out.2.2.1 | exact HF.out.2.2.2.1 | exact HF.out.2.2.2.2.1 | exact HF.out.2.2.2.2.2) (by first | exact HF.out.1 | exact HF.out.2.1 | exact HF.out.2.2.1 | exact HF.out.2.2.2.1 | exact HF.out.2.2.2.2.1 | exact HF.out.2.2.2.2.2) (by first | exact HF.out.1 | exact HF.out.2.1 | exact HF.out.2.2.1 | exact HF.out.2.2.2.1 | exact HF.out.2.2.2.2.1 | exact HF.out.2.2.2.2.2)).mono ?_; rintro en w' ⟨rfl,b⟩))
   go_wp2
   go_ret
   exact ⟨rfl,HBW.out.trans (b.mono HBW.out.size)⟩
  ·
   have h2' : Dt.rightB z n e = false := by simpa using h2
   clear h2
   rw [ahead_not2 h2']
   go_enter Tryz.func113,Tryz.ntmps113
   go_wp2
   obtain ⟨g0,g1,g2⟩ := l0 W.drew (Below.refl _ _).drew
   obtain ⟨g3,g4,g5⟩ := l1 W.drew (Below.refl _ _).drew
   go_region_with (go_at_call 75; refine (right_date _ _ _ W _ (by first | assumption | exact (Below.refl _ _).drew) (by first | exact HF.out.1 | exact HF.out.2.1 | exact HF.out.2.2.1 | exact HF.out.2.2.2.1 | exact HF.out.2.2.2.2.1 | exact HF.out.2.2.2.2.2) (by first | exact HF.out.1 | exact HF.out.2.1 | exact HF.out.2.2.1 | exact HF.out.2.2.2.1 | exact HF.out.2.2.2.2.1 | exact HF.out.2.2.2.2.2) (by first | exact HF.out.1 | exact HF.out.2.1 | exact HF.out.2.2.1 | exact HF.out.2.2.2.1 | exact HF.out.2.2.2.2.1 | exact HF.out.2.2.2.2.2)).mono ?_; rintro en w' ⟨rfl,b⟩; obtain ⟨k0,k1,k2⟩ := l0 _ b; obtain ⟨k3,k4,k5⟩ := l1 _ b; first | rw [h1] | rw [h2'])
   all_goals
    go_wp2
    go_ret
    exact ⟨rfl,HBW.out.trans (b.mono HBW.out.size)⟩
 ·
  have h1' : Dt.rightB y m d = false := by simpa using h1
  clear h1
  rw [ahead_not1 h1']
  go_enter Tryz.func113,Tryz.ntmps113
  go_wp2
  obtain ⟨g0,g1,g2⟩ := l0 W.drew (Below.refl _ _).drew
  obtain ⟨g3,g4,g5⟩ := l1 W.drew (Below.refl _ _).drew
  go_region_with (go_at_call 75; refine (right_date _ _ _ W _ (by first | assumption | exact (Below.refl _ _).drew) (by first | exact HF.out.1 | exact HF.out.2.1 | exact HF.out.2.2.1 | exact HF.out.2.2.2.1 | exact HF.out.2.2.2.2.1 | exact HF.out.2.2.2.2.2) (by first | exact HF.out.1 | exact HF.out.2.1 | exact HF.out.2.2.1 | exact HF.out.2.2.2.1 | exact HF.out.2.2.2.2.1 | exact HF.out.2.2.2.2.2) (by first | exact HF.out.1 | exact HF.out.2.1 | exact HF.out.2.2.1 | exact HF.out.2.2.2.1 | exact HF.out.2.2.2.2.1 | exact HF.out.2.2.2.2.2)).mono ?_; rintro en w' ⟨rfl,b⟩; obtain ⟨k0,k1,k2⟩ := l0 _ b; obtain ⟨k3,k4,k5⟩ := l1 _ b; rw [h1'])
  all_goals
   go_wp2
   go_ret
   exact ⟨rfl,HBW.out.trans (b.mono HBW.out.size)⟩
end Go.Proofs.YtillcleccjgocaaGreat
namespace Go.Proofs.YtillcleccjgocaaGreat
open Go.RowKit
open Vt (Rt)
set_option maxHeartbeats 1000000 in
theorem vat_row (r : Rt) (w0 w : World) (hw : Below w0.heap.size w0 w) (hs : Short r) :
  Calls Tryz.prog 70 #[rowV r] w fun e w' => e = .returned (.int .i64 (Vt.rowE r)) ∧ Below w0.heap.size w0 w' := by
 have HW := Lib.hid hw
 have HS := Lib.hid hs
 clear hw hs
 obtain ⟨cat,y,m,d,bp⟩ := r
 unfold rowV Short at *
 dsimp only at *
 go_enter Tryz.func70,Tryz.ntmps70
 go_wp2_with fail
 refine (name_any cat _ HS.out.1).mono ?_
 rintro e w1 ⟨rfl,b1⟩
 have hC := (rowC_box w ⟨cat,y,m,d,bp⟩).below b1
 have HC := Lib.hid hC
 unfold RowC at hC
 obtain ⟨c0,c1,c2,c3,c4⟩ := hC
 have HB1 := Lib.hid (bchain (below_box HW.out _) b1)
 clear b1
 cases hn : Rn.name (txt cat)
 ·
  have HE := Lib.hid (Vt.rowE_name (r := ⟨cat,y,m,d,bp⟩) hn)
  go_wp2_with fail
  go_ret
  exact ⟨ret_int HE.out.symm,HB1.out⟩
 ·
  have HN := Lib.hid hn
  go_wp2_with fail
  refine (right_date y m d _ _ (Below.refl _ _) HS.out.2.1 HS.out.2.2.1 HS.out.2.2.2.1).mono ?_
  rintro e w2 ⟨rfl,b2⟩
  have hC := HC.out.below b2
  unfold RowC at hC
  obtain ⟨c5,c6,c7,c8,c9⟩ := hC
  have HB2 := Lib.hid (bchain HB1.out b2)
  clear b2
  cases hr : Dt.rightB y m d
  ·
   have HE := Lib.hid (Vt.rowE_day (r := ⟨cat,y,m,d,bp⟩) HN.out hr)
   go_wp2_with fail
   go_ret
   exact ⟨ret_int HE.out.symm,HB2.out⟩
  ·
   have HR := Lib.hid hr
   by_cases h0 : bp < 0
   ·
    have HE := Lib.hid (Vt.rowE_bp (r := ⟨cat,y,m,d,bp⟩) HN.out HR.out (.inl h0))
    go_wp2_with fail
    go_ret
    exact ⟨ret_int HE.out.symm,HB2.out⟩
   ·
    by_cases h1 : 100000 < bp
    ·
     have HE := Lib.hid (Vt.rowE_bp (r := ⟨cat,y,m,d,bp⟩) HN.out HR.out (.inr h1))
     go_wp2_with fail
     go_ret
     exact ⟨ret_int HE.out.symm,HB2.out⟩
    ·
     have HE := Lib.hid (Vt.rowE_0 (r := ⟨cat,y,m,d,bp⟩) |>.2 ⟨HN.out,HR.out,Int.not_lt.1 h0,Int.not_lt.1 h1⟩)
     go_wp2_with fail
     go_ret
     exact ⟨ret_int HE.out.symm,HB2.out⟩
theorem less_self (a : Rt) : Op.bytesLess a.cat.toList a.cat.toList = false := Vt.less_irrefl _
set_option maxHeartbeats 1000000 in
theorem vat_ahead (a b : Rt) (w0 w : World) (hw : Below w0.heap.size w0 w) (ha : Short a) (hb : Short b) (ra : Dt.rightB a.y a.m a.d = true) (rb : Dt.rightB b.y b.m b.d = true) :
  Calls Tryz.prog 71 #[rowV a,rowV b] w fun e w' => e = .returned (.bool (Vt.lt a b)) ∧ Below w0.heap.size w0 w' := by
 have HW := Lib.hid hw
 have HA := Lib.hid ha
 have HB := Lib.hid hb
 have HRR := Lib.hid (ahead_both ra rb)
 clear hw ha hb ra rb
 obtain ⟨W,hW,hbW,hA,hB⟩ := boxed2 w a b
 have HBW : Hid (Below w0.heap.size w0 W) := Lib.hid (bchain HW.out hbW)
 unfold RowC at hA hB
 obtain ⟨a0,a1,a2,a3,a4⟩ := hA
 obtain ⟨b0,b1,b2,b3,b4⟩ := hB
 by_cases hc : a.cat = b.cat
 ·
  have HL := Lib.hid (Vt.lt_same hc)
  have hy : (a.cat.toList == b.cat.toList) = true := beq_iff_eq.2 (by rw [hc])
  have hlf : Op.bytesLess a.cat.toList b.cat.toList = false := by rw [hc]; exact less_self b
  have e1 : Hid (Vt.dy a = Dt.days a.y a.m a.d) := rfl
  have e2 : Hid (Vt.dy b = Dt.days b.y b.m b.d) := rfl
  clear hbW hc
  unfold rowV
  go_enter Tryz.func71,Tryz.ntmps71
  go_wp2_with fail
  refine (before_date a.y a.m a.d b.y b.m b.d w0 _ HBW.out HA.out.2.1 HA.out.2.2.1 HA.out.2.2.2.1 HB.out.2.1 HB.out.2.2.1 HB.out.2.2.2.1).mono ?_
  rintro e w1 ⟨rfl,b5⟩
  have HB1 := Lib.hid b5
  clear b5
  go_wp2_with fail
  go_ret
  exact ⟨ret_bool (by rw [HL.out,e1.out,e2.out,HRR.out]),HB1.out⟩
 ·
  have HL := Lib.hid (Vt.lt_other hc)
  have hy : (a.cat.toList == b.cat.toList) = false := beq_eq_false_iff_ne.2 fun k => hc (Vt.cat_ext k)
  clear hbW hc
  unfold rowV
  cases hl : Op.bytesLess a.cat.toList b.cat.toList
  ·
   go_enter Tryz.func71,Tryz.ntmps71
   go_wp2_with fail
   go_ret
   exact ⟨ret_bool (by rw [HL.out,hl]),HBW.out⟩
  ·
   go_enter Tryz.func71,Tryz.ntmps71
   go_wp2_with fail
   go_ret
   exact ⟨ret_bool (by rw [HL.out,hl]),HBW.out⟩
end Go.Proofs.YtillcleccjgocaaGreat
namespace Go.Proofs.YtillcleccjgocaaGreat
open Go.RowKit
open Vt (Rt)
open Go.Sort (grow)
def Ans (f : FuncId) (args : Array Value) (u : World) (i : Nat) (os : Array Obj) (v : Value) : Prop :=
 Calls Tryz.prog f args (grow (redrawn u i) os) fun e w'' => e = .returned v ∧ ∃ p : Regrown,w'' = grow (redrawn u p.d) p.os
end Go.Proofs.YtillcleccjgocaaGreat
namespace Go.Proofs.YtillcleccjgocaaGreat
open Go.RowKit
open Vt (Rt)
open Go.Sort (grow)
theorem vatRow_agg (r : Rt) (hs : Short r) (u : World) (i : Nat) (os : Array Obj) : Ans 70 #[.agg #[.string r.cat,.int .i64 r.y,.int .i64 r.m,.int .i64 r.d,.int .i64 r.bp]] u i os (.int .i64 (Vt.rowE r)) :=
 Calls.regrown_of (vat_row r _ _ (Below.refl _ _) hs)
theorem vatAhead_agg (a b : Rt) (ha : Short a) (hb : Short b) (ra : Vt.rowE a = 0) (rb : Vt.rowE b = 0) (u : World) (i : Nat) (os : Array Obj) : Ans 71 #[.agg #[.string a.cat,.int .i64 a.y,.int .i64 a.m,.int .i64 a.d,.int .i64 a.bp],.agg #[.string b.cat,.int .i64 b.y,.int .i64 b.m,.int .i64 b.d,.int .i64 b.bp]] u i os (.bool (Vt.lt a b)) :=
 Calls.regrown_of (vat_ahead a b _ _ (Below.refl _ _) ha hb (Vt.rowE_0.1 ra).2.1 (Vt.rowE_0.1 rb).2.1)
set_option maxHeartbeats 2000000 in
theorem vat_right (rs : List Rt) (ao : Option Addr) (n cap : Nat) (w0 w : World) (hw : Below w0.heap.size w0 w) (hR : Rts w ao n cap rs) :
  Calls Tryz.prog 28 #[.slice ao n cap] w fun e w' => e = .returned (.bool (Vt.tableB rs)) ∧ Below w0.heap.size w0 w' := by
 have HW := Lib.hid hw
 have HR := Lib.hid hR
 have HN := Lib.hid hR.len
 have hcap := hR.reach
 have hfit := hR.fits
 clear hw hR
 by_cases h24 : 24 < n
 ·
  have HT := Lib.hid (Vt.table_long (l := rs) (HN.out ▸ h24))
  go_enter Tryz.func28,Tryz.ntmps28
  go_wp2
  go_ret
  exact ⟨ret_bool HT.out.symm,HW.out⟩
 ·
  have HT := Lib.hid (Vt.table_short (l := rs) (by have := HN.out; omega))
  go_enter Tryz.func28,Tryz.ntmps28
  go_wp2
  go_loopw [3,4,10] (fun _ _ i wr => ∃ k : Nat,k ≤ n ∧ i = .int .i64 k ∧ Hid (Vt.okAll (Vt.prevAt rs k) (rs.drop k) = Vt.okAll none rs) ∧ Hid (∀ q,Vt.prevAt rs k = some q → Vt.rowE q = 0) ∧ Hid (Below w.heap.size w wr)) (fun _ _ i _ => n - (intOf i).toNat)
  case atStart => exact ⟨0,by omega,rfl,Lib.hid rfl,Lib.hid (fun q h => by unfold Vt.prevAt at h; rw [if_pos rfl] at h; cases h),Lib.hid (Below.refl _ _)⟩
  case round =>
   obtain ⟨k,hk,rfl,HK,HQ,HB⟩ := hrel
   by_cases hlt : k < n
   ·
    obtain ⟨b,off,rfl⟩ := HR.out.at (by omega)
    have hkr : k < rs.length := HN.out ▸ hlt
    obtain ⟨r,hr⟩ : ∃ r,rs[k] = r := ⟨_,rfl⟩
    have hrow := (HR.out.row k hkr).below HB.out
    have HSt := Lib.hid (Vt.okAll_at rs k hkr)
    have HPr : Hid (Vt.prevAt rs (k + 1) = some r) := Lib.hid (by unfold Vt.prevAt; rw [if_neg (by omega),Nat.add_sub_cancel,List.getElem?_eq_getElem hkr,hr])
    rw [hr] at hrow HSt
    have hsh : Short r := HR.out.short r (hr ▸ List.getElem_mem hkr)
    obtain ⟨g0,g1,g2,g3,g4⟩ := hrow
    obtain ⟨W,hW,hbW,hA⟩ := boxed1 wr r
    have HBW := Lib.hid (bchain HB.out hbW)
    clear hbW
    unfold RowC at hA
    obtain ⟨a0,a1,a2,a3,a4⟩ := hA
    have k0 := cell_regrown a0
    have k1 := cell_regrown a1
    have k2 := cell_regrown a2
    have k3 := cell_regrown a3
    have k4 := cell_regrown a4
    have c1 := vatRow_agg r hsh
    by_cases he : Vt.rowE r = 0
    ·
     have hne : (Vt.rowE r != 0) = false := by rw [he]; rfl
     by_cases hk0 : k = 0
     ·
      subst hk0
      simp only [Nat.zero_mul,Nat.add_zero] at g0 g1 g2 g3 g4
      have HO : Hid (Vt.ok (Vt.prevAt rs 0) r = true) := by
       show _ = _
       unfold Vt.ok Vt.prevAt
       rw [decide_eq_true he]
       rfl
      have HE := Lib.hid he
      clear he hr hsh
      go_wp2
      refine wp_region_quiet_below (by kernel_rfl) (by kernel_rfl) ?_
      repeat (first | go_big_quiet_step (first | (go_at_call 70; exact c1 _ _ _)) | quiet_step (first | (go_at_call 70; exact c1 _ _ _)))
      refine wpQuiet_nil ?_
      intro _ hw'
      obtain ⟨⟨dq,osq⟩,hw''⟩ := hw'
      subst hw''
      have HBv := Lib.hid (bchain HBW.out (below_regrown W dq osq))
      go_wp2
      go_roundw
      case rel => exact ⟨1,by omega,rfl,Lib.hid (by rw [← HK.out,HSt.out,HO.out,Bool.true_and]),Lib.hid (fun q h => by rw [HPr.out] at h; cases h; exact HE.out),HBv⟩
      case measure => simp [intOf]; omega
     ·
      obtain ⟨j,rfl⟩ : ∃ j,k = j + 1 := ⟨k - 1,by omega⟩
      have hjr : j < rs.length := by omega
      obtain ⟨q,hq⟩ : ∃ q,rs[j] = q := ⟨_,rfl⟩
      have hrow2 := (HR.out.row j hjr).below HBW.out
      have hqs : Short q := HR.out.short q (hq ▸ List.getElem_mem hjr)
      rw [hq] at hrow2
      obtain ⟨f0,f1,f2,f3,f4⟩ := hrow2
      have m0 := cell_regrown f0
      have m1 := cell_regrown f1
      have m2 := cell_regrown f2
      have m3 := cell_regrown f3
      have m4 := cell_regrown f4
      have hpj : Vt.prevAt rs (j + 1) = some q := by unfold Vt.prevAt; rw [if_neg (by omega),Nat.add_sub_cancel,List.getElem?_eq_getElem hjr,hq]
      have c2 := vatAhead_agg q r hqs hsh (HQ.out q hpj) he
      have HO : Hid (Vt.ok (Vt.prevAt rs (j + 1)) r = Vt.lt q r) := by
       show _ = _
       unfold Vt.ok
       rw [decide_eq_true he,hpj]
       rfl
      have hjs : ((j + 1 : Nat) : Int) - 1 = (j : Int) := by omega
      have HE := Lib.hid he
      clear he hq hk0 hpj hr hsh hqs
      cases hlt2 : Vt.lt q r
      ·
       rw [hlt2] at c2 HO
       go_wp2
       refine wp_region_quiet_below (by kernel_rfl) (by kernel_rfl) ?_
       repeat (first | go_big_quiet_step (first | (go_at_call 70; exact c1 _ _ _) | (go_at_call 71; exact c2 _ _ _)) | quiet_step (first | (go_at_call 70; exact c1 _ _ _) | (go_at_call 71; exact c2 _ _ _)))
       refine wpQuiet_nil ?_
       intro _ hw'
       obtain ⟨⟨dq,osq⟩,hw''⟩ := hw'
       subst hw''
       have HBv := Lib.hid (bchain HBW.out (below_regrown W dq osq))
       go_wp2
       go_ret
       exact ⟨ret_bool (by rw [HT.out,← HK.out,HSt.out,HO.out,Bool.false_and]),bchain HW.out HBv.out⟩
      ·
       rw [hlt2] at c2 HO
       go_wp2
       refine wp_region_quiet_below (by kernel_rfl) (by kernel_rfl) ?_
       repeat (first | go_big_quiet_step (first | (go_at_call 70; exact c1 _ _ _) | (go_at_call 71; exact c2 _ _ _)) | quiet_step (first | (go_at_call 70; exact c1 _ _ _) | (go_at_call 71; exact c2 _ _ _)))
       refine wpQuiet_nil ?_
       intro _ hw'
       obtain ⟨⟨dq,osq⟩,hw''⟩ := hw'
       subst hw''
       have HBv := Lib.hid (bchain HBW.out (below_regrown W dq osq))
       go_wp2
       go_roundw
       case rel => exact ⟨j + 1 + 1,by omega,by go_num,Lib.hid (by rw [← HK.out,HSt.out,HO.out,Bool.true_and]),Lib.hid (fun q h => by rw [HPr.out] at h; cases h; exact HE.out),HBv⟩
       case measure => simp [intOf]; omega
    ·
     have hne : (Vt.rowE r != 0) = true := bne_iff_ne.2 he
     have HO : Hid (Vt.ok (Vt.prevAt rs k) r = false) := by
      show _ = _
      unfold Vt.ok
      rw [decide_eq_false he]
      rfl
     clear he hr hsh
     go_wp2
     refine wp_region_quiet_below (by kernel_rfl) (by kernel_rfl) ?_
     repeat (first | go_big_quiet_step (first | (go_at_call 70; exact c1 _ _ _)) | quiet_step (first | (go_at_call 70; exact c1 _ _ _)))
     refine wpQuiet_nil ?_
     intro _ hw'
     obtain ⟨⟨dq,osq⟩,hw''⟩ := hw'
     subst hw''
     have HBv := Lib.hid (bchain HBW.out (below_regrown W dq osq))
     go_wp2
     go_ret
     exact ⟨ret_bool (by rw [HT.out,← HK.out,HSt.out,HO.out,Bool.false_and]),bchain HW.out HBv.out⟩
   ·
    obtain rfl : k = n := by omega
    go_wp2
    go_ret
    exact ⟨ret_bool (by rw [HT.out,← HK.out,List.drop_eq_nil_of_le (Nat.le_of_eq HN.out.symm)]; rfl),bchain HW.out HB.out⟩
end Go.Proofs.YtillcleccjgocaaGreat
namespace Go.Proofs.YtillcleccjgocaaGreat
open Go.RowKit
open Mem
open Go.Sort (grow)
def AnsS (f : FuncId) (args : Array Value) (u : World) (i : Nat) (os : Array Obj) (v : Value) : Prop :=
 Calls Tryz.prog f args (grow (redrawn u i) os) fun e w'' => e = .returned v ∧ ∃ p : Regrown,w'' = grow (redrawn u p.d) p.os
theorem ses_numbers (n : Int) (w : World) : Calls Tryz.prog 102 #[.int .i64 n] w fun e w' => e = .returned (.bool (Sp.numB n)) ∧ w' = w := by
 by_cases h1 : 1 ≤ n
 ·
  by_cases h2 : n ≤ 1099511627776
  ·
   have HL := Lib.hid (Sp.num_iff.2 ⟨h1,h2⟩)
   go_enter Tryz.func102,Tryz.ntmps102
   go_wp2
   go_ret
   exact ⟨ret_bool HL.out.symm,rfl⟩
  ·
   have HL : Hid (Sp.numB n = false) := Lib.hid (Bool.eq_false_iff.2 fun k => h2 (Sp.num_iff.1 k).2)
   go_enter Tryz.func102,Tryz.ntmps102
   go_wp2
   go_ret
   exact ⟨ret_bool HL.out.symm,rfl⟩
 ·
  have HL : Hid (Sp.numB n = false) := Lib.hid (Bool.eq_false_iff.2 fun k => h1 (Sp.num_iff.1 k).1)
  go_enter Tryz.func102,Tryz.ntmps102
  go_wp2
  go_ret
  exact ⟨ret_bool HL.out.symm,rfl⟩
theorem numbers_agg (n : Int) (u : World) (i : Nat) (os : Array Obj) : AnsS 102 #[.int .i64 n] u i os (.bool (Sp.numB n)) :=
 Calls.regrown_of ((ses_numbers n _).mono fun _ _ h => ⟨h.1,by rw [h.2]; exact Below.refl _ _⟩)
theorem ses_fresh (i : Int) (w0 w : World) (hw : Below w0.heap.size w0 w) :
  Calls Tryz.prog 138 #[.int .i64 i] w fun e w' => e = .returned (Sn.val (Sp.new i)) ∧ Below w0.heap.size w0 w' := by
 have HW := Lib.hid hw
 clear hw
 go_enter Tryz.func138,Tryz.ntmps138
 go_wp2
 exact bodyPost_ret (v := Sn.val (Sp.new i)) (by simp [results,Sn.val,Sp.new,Tryz.results138,go_sem]) rfl ⟨rfl,below_box HW.out _⟩
theorem fresh_agg (i : Int) (u : World) (k : Nat) (os : Array Obj) : AnsS 138 #[.int .i64 i] u k os (.agg #[.int .i64 i,.int .i64 0,.int .i64 0,.int .i64 0,.int .i64 0]) :=
 Calls.regrown_of (ses_fresh i _ _ (Below.refl _ _))
def Sp.mid (r : Sn.T) : Bool := Sp.numB r.last || (decide (r.last = 0) && Sp.zeroB r)
theorem Sp.mid_no {r : Sn.T} (h : Sp.numB r.last = false) (k : r.last ≠ 0 ∨ r.why ≠ 0 ∨ r.num ≠ 0 ∨ r.gross ≠ 0) : Sp.mid r = false := by
 unfold Sp.mid
 rw [h,Bool.false_or]
 rw [Bool.eq_false_iff]
 intro hh
 rw [Bool.and_eq_true,decide_eq_true_iff,Sp.zero_iff] at hh
 omega
theorem Sp.mid_zero {r : Sn.T} (h0 : r.last = 0) (h1 : r.why = 0) (h2 : r.num = 0) (h3 : r.gross = 0) : Sp.mid r = true := by
 unfold Sp.mid
 rw [decide_eq_true h0,Sp.zero_iff.2 ⟨h1,h2,h3⟩,Bool.and_self,Bool.or_true]
theorem Sp.mid_num {r : Sn.T} (h : Sp.numB r.last = true) : Sp.mid r = true := by
 unfold Sp.mid
 rw [h,Bool.true_or]
def Sp.aid : Option Sn.T → Int
 | none => 0
 | some q => q.id
theorem Sp.ok_mid (p : Option Sn.T) (r : Sn.T) (h : 0 ≤ Sp.aid p) : Sp.ok p r = (decide (Sp.aid p < r.id) && Sp.mid r) := by
 have hm : Sp.mid r = true ↔ 0 ≤ r.last ∧ r.last ≤ 1099511627776 ∧ (r.last = 0 → r.why = 0 ∧ r.num = 0 ∧ r.gross = 0) := by
  unfold Sp.mid
  rw [Bool.or_eq_true,Bool.and_eq_true,decide_eq_true_iff,Sp.num_iff,Sp.zero_iff]
  omega
 rw [Bool.eq_iff_iff]
 unfold Sp.ok
 rw [Bool.and_eq_true,Bool.and_eq_true,Sp.sound_iff,hm,decide_eq_true_iff]
 cases p with
 | none =>
  unfold Sp.aid
  simp only [and_true]
  omega
 | some q =>
  unfold Sp.aid at h ⊢
  simp only at h ⊢
  rw [Sp.lt_iff]
  omega
set_option maxHeartbeats 2000000 in
theorem ses_sound (r : Sn.T) (w0 w : World) (hw : Below w0.heap.size w0 w) :
  Calls Tryz.prog 115 #[Sn.val r] w fun e w' => e = .returned (.bool (Sp.mid r)) ∧ Below w0.heap.size w0 w' := by
 have HW := Lib.hid hw
 clear hw
 obtain ⟨W,hW,hbW,hC⟩ := Sn.boxed1 w r
 have HBW := Lib.hid (bchain HW.out hbW)
 clear hbW
 unfold Sn.C at hC
 obtain ⟨a0,a1,a2,a3,a4⟩ := hC
 have k0 := cell_regrown a0
 have k1 := cell_regrown a1
 have k2 := cell_regrown a2
 have k3 := cell_regrown a3
 have k4 := cell_regrown a4
 have c1 := numbers_agg r.last
 have c2 := fresh_agg r.id
 unfold Sn.val
 cases hn : Sp.numB r.last
 ·
  rw [hn] at c1
  have HN := Lib.hid hn
  clear hn
  by_cases h1 : r.last = 0
  ·
   by_cases h2 : r.why = 0
   ·
    by_cases h3 : r.num = 0
    ·
     by_cases h4 : r.gross = 0
     ·
      have HE := Lib.hid (Sp.mid_zero h1 h2 h3 h4)
      have q1 : (r.last == 0) = true := beq_iff_eq.2 h1
      have q2 : (r.why == 0) = true := beq_iff_eq.2 h2
      have q3 : (r.num == 0) = true := beq_iff_eq.2 h3
      have q4 : (r.gross == 0) = true := beq_iff_eq.2 h4
      clear h1 h2 h3 h4
      go_enter Tryz.func115,Tryz.ntmps115
      go_wp2
      refine wp_region_quiet_below (by kernel_rfl) (by kernel_rfl) ?_
      repeat (first | go_big_quiet_step (first | (go_at_call 102; exact c1 _ _ _) | (go_at_call 138; exact c2 _ _ _)) | quiet_step (first | (go_at_call 102; exact c1 _ _ _) | (go_at_call 138; exact c2 _ _ _)))
      refine wpQuiet_nil ?_
      intro _ hw'
      obtain ⟨⟨dq,osq⟩,hw''⟩ := hw'
      subst hw''
      have HBv := Lib.hid (bchain HBW.out (below_regrown W dq osq))
      go_wp2
      go_ret
      exact ⟨ret_bool HE.out.symm,HBv.out⟩
     ·
      have HE := Lib.hid (Sp.mid_no HN.out (.inr (.inr (.inr h4))))
      have q1 : (r.last == 0) = true := beq_iff_eq.2 h1
      have q2 : (r.why == 0) = true := beq_iff_eq.2 h2
      have q3 : (r.num == 0) = true := beq_iff_eq.2 h3
      have q4 : (r.gross == 0) = false := beq_eq_false_iff_ne.2 h4
      clear h1 h2 h3 h4
      go_enter Tryz.func115,Tryz.ntmps115
      go_wp2
      refine wp_region_quiet_below (by kernel_rfl) (by kernel_rfl) ?_
      repeat (first | go_big_quiet_step (first | (go_at_call 102; exact c1 _ _ _) | (go_at_call 138; exact c2 _ _ _)) | quiet_step (first | (go_at_call 102; exact c1 _ _ _) | (go_at_call 138; exact c2 _ _ _)))
      refine wpQuiet_nil ?_
      intro _ hw'
      obtain ⟨⟨dq,osq⟩,hw''⟩ := hw'
      subst hw''
      have HBv := Lib.hid (bchain HBW.out (below_regrown W dq osq))
      go_wp2
      go_ret
      exact ⟨ret_bool HE.out.symm,HBv.out⟩
    ·
     have HE := Lib.hid (Sp.mid_no HN.out (.inr (.inr (.inl h3))))
     have q1 : (r.last == 0) = true := beq_iff_eq.2 h1
     have q2 : (r.why == 0) = true := beq_iff_eq.2 h2
     have q3 : (r.num == 0) = false := beq_eq_false_iff_ne.2 h3
     clear h1 h2 h3
     go_enter Tryz.func115,Tryz.ntmps115
     go_wp2
     refine wp_region_quiet_below (by kernel_rfl) (by kernel_rfl) ?_
     repeat (first | go_big_quiet_step (first | (go_at_call 102; exact c1 _ _ _) | (go_at_call 138; exact c2 _ _ _)) | quiet_step (first | (go_at_call 102; exact c1 _ _ _) | (go_at_call 138; exact c2 _ _ _)))
     refine wpQuiet_nil ?_
     intro _ hw'
     obtain ⟨⟨dq,osq⟩,hw''⟩ := hw'
     subst hw''
     have HBv := Lib.hid (bchain HBW.out (below_regrown W dq osq))
     go_wp2
     go_ret
     exact ⟨ret_bool HE.out.symm,HBv.out⟩
   ·
    have HE := Lib.hid (Sp.mid_no HN.out (.inr (.inl h2)))
    have q1 : (r.last == 0) = true := beq_iff_eq.2 h1
    have q2 : (r.why == 0) = false := beq_eq_false_iff_ne.2 h2
    clear h1 h2
    go_enter Tryz.func115,Tryz.ntmps115
    go_wp2
    refine wp_region_quiet_below (by kernel_rfl) (by kernel_rfl) ?_
    repeat (first | go_big_quiet_step (first | (go_at_call 102; exact c1 _ _ _) | (go_at_call 138; exact c2 _ _ _)) | quiet_step (first | (go_at_call 102; exact c1 _ _ _) | (go_at_call 138; exact c2 _ _ _)))
    refine wpQuiet_nil ?_
    intro _ hw'
    obtain ⟨⟨dq,osq⟩,hw''⟩ := hw'
    subst hw''
    have HBv := Lib.hid (bchain HBW.out (below_regrown W dq osq))
    go_wp2
    go_ret
    exact ⟨ret_bool HE.out.symm,HBv.out⟩
  ·
   have HE := Lib.hid (Sp.mid_no HN.out (.inl h1))
   have q1 : (r.last == 0) = false := beq_eq_false_iff_ne.2 h1
   clear h1
   go_enter Tryz.func115,Tryz.ntmps115
   go_wp2
   refine wp_region_quiet_below (by kernel_rfl) (by kernel_rfl) ?_
   repeat (first | go_big_quiet_step (first | (go_at_call 102; exact c1 _ _ _) | (go_at_call 138; exact c2 _ _ _)) | quiet_step (first | (go_at_call 102; exact c1 _ _ _) | (go_at_call 138; exact c2 _ _ _)))
   refine wpQuiet_nil ?_
   intro _ hw'
   obtain ⟨⟨dq,osq⟩,hw''⟩ := hw'
   subst hw''
   have HBv := Lib.hid (bchain HBW.out (below_regrown W dq osq))
   go_wp2
   go_ret
   exact ⟨ret_bool HE.out.symm,HBv.out⟩
 ·
  rw [hn] at c1
  have HE := Lib.hid (Sp.mid_num hn)
  clear hn
  go_enter Tryz.func115,Tryz.ntmps115
  go_wp2
  refine wp_region_quiet_below (by kernel_rfl) (by kernel_rfl) ?_
  repeat (first | go_big_quiet_step (first | (go_at_call 102; exact c1 _ _ _) | (go_at_call 138; exact c2 _ _ _)) | quiet_step (first | (go_at_call 102; exact c1 _ _ _) | (go_at_call 138; exact c2 _ _ _)))
  refine wpQuiet_nil ?_
  intro _ hw'
  obtain ⟨⟨dq,osq⟩,hw''⟩ := hw'
  subst hw''
  have HBv := Lib.hid (bchain HBW.out (below_regrown W dq osq))
  go_wp2
  go_ret
  exact ⟨ret_bool HE.out.symm,HBv.out⟩
end Go.Proofs.YtillcleccjgocaaGreat
namespace Go.Proofs.YtillcleccjgocaaGreat
open Go.RowKit
open Mem
open Go.Sort (grow)
set_option maxHeartbeats 2000000 in
theorem ses_right (rs : List Sn.T) (ao : Option Addr) (n cap : Nat) (w0 w : World) (hw : Below w0.heap.size w0 w) (hR : Sn.Ls w ao n cap rs) :
  Calls Tryz.prog 73 #[.slice ao n cap] w fun e w' => e = .returned (.bool (Sp.rightB rs)) ∧ Below w0.heap.size w0 w' := by
 have HW := Lib.hid hw
 have HR := Lib.hid hR
 have HN := Lib.hid hR.len
 have hcap := hR.reach
 have hfit := hR.fits
 clear hw hR
 by_cases h8 : 8 < n
 ·
  have HT := Lib.hid (Sp.right_long (l := rs) (HN.out ▸ h8))
  go_enter Tryz.func73,Tryz.ntmps73
  go_wp2
  go_ret
  exact ⟨ret_bool HT.out.symm,HW.out⟩
 ·
  have HT := Lib.hid (Sp.right_short (l := rs) (by have := HN.out; omega))
  go_enter Tryz.func73,Tryz.ntmps73
  go_wp2
  go_loopw [3,5,11] (fun a _ i wr => ∃ (k : Nat) (A : Int),k ≤ n ∧ a = .int .i64 A ∧ i = .int .i64 k ∧ Hid (A = Sp.aid (Sp.prevAt rs k) ∧ 0 ≤ A) ∧ Hid (Sp.okAll (Sp.prevAt rs k) (rs.drop k) = Sp.okAll none rs) ∧ Hid (Below w.heap.size w wr)) (fun _ _ i _ => n - (intOf i).toNat)
  case atStart => exact ⟨0,0,by omega,rfl,rfl,Lib.hid ⟨rfl,Int.le_refl _⟩,Lib.hid rfl,Lib.hid (Below.refl _ _)⟩
  case round =>
   obtain ⟨k,A,hk,rfl,rfl,HA,HK,HB⟩ := hrel
   by_cases hlt : k < n
   ·
    obtain ⟨b,off,rfl⟩ := HR.out.at (by omega)
    have hkr : k < rs.length := HN.out ▸ hlt
    obtain ⟨r,hr⟩ : ∃ r,rs[k] = r := ⟨_,rfl⟩
    have hrow := (HR.out.row k hkr).below HB.out
    have HSt := Lib.hid (Sp.okAll_at rs k hkr)
    have HPv := Lib.hid (Sp.prev_at hkr hr)
    rw [hr] at hrow HSt
    have HO := Lib.hid (Sp.ok_mid (Sp.prevAt rs k) r (by rw [← HA.out.1]; exact HA.out.2))
    rw [← HA.out.1] at HO
    obtain ⟨g0,g1,g2,g3,g4⟩ := hrow
    obtain ⟨W,hW,hbW,hA⟩ := Sn.boxed1 wr r
    have HBW := Lib.hid (bchain HB.out hbW)
    have HC := Lib.hid hA
    clear hbW hr
    unfold Sn.C at hA
    obtain ⟨a0,a1,a2,a3,a4⟩ := hA
    by_cases hle : r.id ≤ A
    ·
     have hd : decide (r.id ≤ A) = true := decide_eq_true hle
     have HD : Hid (decide (A < r.id) = false) := Lib.hid (decide_eq_false (by omega))
     clear hle
     go_wp2_with fail
     go_ret
     exact ⟨ret_bool (by rw [HT.out,← HK.out,HSt.out,HO.out,HD.out,Bool.false_and,Bool.false_and]),bchain HW.out HBW.out⟩
    ·
     have hd : decide (r.id ≤ A) = false := decide_eq_false hle
     have HD : Hid (decide (A < r.id) = true) := Lib.hid (decide_eq_true (by omega))
     have HG : Hid (0 ≤ r.id) := Lib.hid (by have := HA.out.2; omega)
     clear hle
     go_wp2_with fail
     refine (ses_sound r W _ (Below.refl _ _)).mono ?_
     rintro e w1 ⟨rfl,b1⟩
     have hA := HC.out.below b1
     have HB1 := Lib.hid (bchain HBW.out b1)
     clear a0 a1 a2 a3 a4 b1 HC
     unfold Sn.C at hA
     obtain ⟨a0,a1,a2,a3,a4⟩ := hA
     cases hm : Sp.mid r
     ·
      rw [hm] at HO
      clear hm
      go_wp2_with fail
      go_ret
      exact ⟨ret_bool (by rw [HT.out,← HK.out,HSt.out,HO.out,Bool.and_false,Bool.false_and]),bchain HW.out HB1.out⟩
     ·
      rw [hm] at HO
      clear hm
      go_wp2_with fail
      go_roundw
      case rel => exact ⟨k + 1,r.id,by omega,rfl,by go_num,Lib.hid ⟨by rw [HPv.out]; rfl,HG.out⟩,Lib.hid (by rw [← HK.out,HSt.out,HO.out,HD.out,Bool.true_and,Bool.true_and]),HB1⟩
      case measure => simp [intOf]; omega
   ·
    obtain rfl : k = n := by omega
    go_wp2_with fail
    go_ret
    exact ⟨ret_bool (by rw [HT.out,← HK.out,List.drop_eq_nil_of_le (Nat.le_of_eq HN.out.symm)]; rfl),bchain HW.out HB.out⟩
end Go.Proofs.YtillcleccjgocaaGreat
namespace Go.Proofs.YtillcleccjgocaaGreat
open Go.RowKit
open Mem
open Go.Sort (grow)
def AnsSe (f : FuncId) (args : Array Value) (u : World) (i : Nat) (os : Array Obj) (v : Value) : Prop :=
 Calls Tryz.prog f args (grow (redrawn u i) os) fun e w'' => e = .returned v ∧ ∃ p : Regrown,w'' = grow (redrawn u p.d) p.os
theorem ser_limits (n : Int) (w : World) : Calls Tryz.prog 114 #[.int .i64 n] w fun e w' => e = .returned (.bool (Se.lim n)) ∧ w' = w := by
 by_cases h1 : 1 ≤ n
 ·
  by_cases h2 : n ≤ 1099511627776
  ·
   have HL := Lib.hid (Se.lim_iff.2 ⟨h1,h2⟩)
   go_enter Tryz.func114,Tryz.ntmps114
   go_wp2
   go_ret
   exact ⟨ret_bool HL.out.symm,rfl⟩
  ·
   have HL := Lib.hid ((Se.lim_no (n := n)).2 (.inr (by omega)))
   go_enter Tryz.func114,Tryz.ntmps114
   go_wp2
   go_ret
   exact ⟨ret_bool HL.out.symm,rfl⟩
 ·
  have HL := Lib.hid ((Se.lim_no (n := n)).2 (.inl (by omega)))
  go_enter Tryz.func114,Tryz.ntmps114
  go_wp2
  go_ret
  exact ⟨ret_bool HL.out.symm,rfl⟩
set_option maxHeartbeats 2000000 in
theorem ser_sound (r : Sr.T) (w0 w : World) (hw : Below w0.heap.size w0 w) (hs : Sr.Short r) :
  Calls Tryz.prog 72 #[Sr.val r] w fun e w' => e = .returned (.bool (Se.sound r)) ∧ Below w0.heap.size w0 w' := by
 have HW := Lib.hid hw
 have HS := Lib.hid hs
 clear hw hs
 obtain ⟨W,hW,hbW,hC⟩ := Sr.boxed1 w r
 have HBW := Lib.hid (bchain HW.out hbW)
 have HC := Lib.hid hC
 clear hbW
 unfold Sr.C at hC
 obtain ⟨a0,a1,a2,a3⟩ := hC
 unfold Sr.val
 go_enter Tryz.func72,Tryz.ntmps72
 go_wp2_with fail
 refine (name_any r.name _ HS.out.1).mono ?_
 rintro e w1 ⟨rfl,b1⟩
 have hC := HC.out.below b1
 have HC1 := Lib.hid hC
 have HB1 := Lib.hid (bchain HBW.out b1)
 unfold Sr.C at hC
 clear a0 a1 a2 a3 b1 hW HC HBW
 obtain ⟨a0,a1,a2,a3⟩ := hC
 cases hn : Rn.name (txt r.name)
 ·
  have HE := Lib.hid (Se.sound_no (r := r) (.inl hn))
  clear hn
  go_wp2_with fail
  go_ret
  exact ⟨ret_bool HE.out.symm,HB1.out⟩
 ·
  have HN := Lib.hid hn
  clear hn
  go_wp2_with fail
  refine (ser_limits r.limit _).mono ?_
  rintro e w2 ⟨rfl,rfl⟩
  cases hl : Se.lim r.limit
  ·
   have HE := Lib.hid (Se.sound_no (r := r) (.inr (.inl hl)))
   clear hl
   go_wp2_with fail
   go_ret
   exact ⟨ret_bool HE.out.symm,HB1.out⟩
  ·
   have HL := Lib.hid hl
   obtain ⟨hl1,hl2⟩ := Se.lim_iff.1 hl
   clear hl
   by_cases h1 : 1 ≤ r.next
   ·
    by_cases h2 : r.next ≤ r.limit + 1
    ·
     have HE := Lib.hid (Se.sound_iff.2 ⟨HN.out,HL.out,h1,h2⟩)
     go_wp2_with fail
     go_ret
     exact ⟨ret_bool HE.out.symm,HB1.out⟩
    ·
     have HE := Lib.hid (Se.sound_no (r := r) (.inr (.inr (.inr (by omega)))))
     go_wp2_with fail
     go_ret
     exact ⟨ret_bool (by rw [HE.out]; exact decide_eq_false (Int.not_le.2 h2)),HB1.out⟩
   ·
    have HE := Lib.hid (Se.sound_no (r := r) (.inr (.inr (.inl (by omega)))))
    go_wp2_with fail
    go_ret
    exact ⟨ret_bool HE.out.symm,HB1.out⟩
theorem sound_agg (r : Sr.T) (hs : Sr.Short r) (u : World) (i : Nat) (os : Array Obj) : AnsSe 72 #[.agg #[.string r.name,.int .i64 r.next,.int .i64 r.limit,.bool r.shut]] u i os (.bool (Se.sound r)) :=
 Calls.regrown_of (ser_sound r _ _ (Below.refl _ _) hs)
end Go.Proofs.YtillcleccjgocaaGreat
namespace Go.Proofs.YtillcleccjgocaaGreat
open Go.RowKit
open Mem
open Go.Sort (grow)
set_option maxHeartbeats 2000000 in
theorem ser_right (rs : List Sr.T) (ao : Option Addr) (n cap : Nat) (w0 w : World) (hw : Below w0.heap.size w0 w) (hR : Sr.Ls w ao n cap rs) :
  Calls Tryz.prog 29 #[.slice ao n cap] w fun e w' => e = .returned (.bool (Se.rightB rs)) ∧ Below w0.heap.size w0 w' := by
 have HW := Lib.hid hw
 have HR := Lib.hid hR
 have HN := Lib.hid hR.len
 have hcap := hR.reach
 have hfit := hR.fits
 clear hw hR
 by_cases h8 : 8 < n
 ·
  have HT := Lib.hid (Se.right_long (l := rs) (HN.out ▸ h8))
  go_enter Tryz.func29,Tryz.ntmps29
  go_wp2
  go_ret
  exact ⟨ret_bool HT.out.symm,HW.out⟩
 ·
  have HT := Lib.hid (Se.right_short (l := rs) (by have := HN.out; omega))
  go_enter Tryz.func29,Tryz.ntmps29
  go_wp2
  go_loopw [3,4,10] (fun _ _ i wr => ∃ k : Nat,k ≤ n ∧ i = .int .i64 k ∧ Hid (Se.okAll (Se.prevAt rs k) (rs.drop k) = Se.okAll none rs) ∧ Hid (Below w.heap.size w wr)) (fun _ _ i _ => n - (intOf i).toNat)
  case atStart => exact ⟨0,by omega,rfl,Lib.hid rfl,Lib.hid (Below.refl _ _)⟩
  case round =>
   obtain ⟨k,hk,rfl,HK,HB⟩ := hrel
   by_cases hlt : k < n
   ·
    obtain ⟨b,off,rfl⟩ := HR.out.at (by omega)
    have hkr : k < rs.length := HN.out ▸ hlt
    obtain ⟨r,hr⟩ : ∃ r,rs[k] = r := ⟨_,rfl⟩
    have hrow := (HR.out.row k hkr).below HB.out
    have HSt := Lib.hid (Se.okAll_at rs k hkr)
    rw [hr] at hrow HSt
    have hsh : Sr.Short r := HR.out.short r (hr ▸ List.getElem_mem hkr)
    obtain ⟨g0,g1,g2,g3⟩ := hrow
    obtain ⟨W,hW,hbW,hA⟩ := Sr.boxed1 wr r
    have HBW := Lib.hid (bchain HB.out hbW)
    clear hbW
    unfold Sr.C at hA
    obtain ⟨a0,a1,a2,a3⟩ := hA
    have k0 := cell_regrown a0
    have k1 := cell_regrown a1
    have k2 := cell_regrown a2
    have k3 := cell_regrown a3
    have c1 := sound_agg r hsh
    clear hsh hr
    cases he : Se.sound r
    ·
     rw [he] at c1
     have HO : Hid (Se.ok (Se.prevAt rs k) r = false) := by
      show _ = _
      unfold Se.ok
      rw [he]
      rfl
     clear he
     go_wp2
     refine wp_region_quiet_below (by kernel_rfl) (by kernel_rfl) ?_
     repeat (first | go_big_quiet_step (first | (go_at_call 72; exact c1 _ _ _)) | quiet_step (first | (go_at_call 72; exact c1 _ _ _)))
     refine wpQuiet_nil ?_
     intro _ hw'
     obtain ⟨⟨dq,osq⟩,hw''⟩ := hw'
     subst hw''
     have HBv := Lib.hid (bchain HBW.out (below_regrown W dq osq))
     go_wp2
     go_ret
     exact ⟨ret_bool (by rw [HT.out,← HK.out,HSt.out,HO.out,Bool.false_and]),bchain HW.out HBv.out⟩
    ·
     rw [he] at c1
     by_cases hk0 : k = 0
     ·
      subst hk0
      simp only [Nat.zero_mul,Nat.add_zero] at g0 g1 g2 g3
      have HO : Hid (Se.ok (Se.prevAt rs 0) r = true) := by
       show _ = _
       unfold Se.ok Se.prevAt
       rw [he]
       rfl
      clear he
      go_wp2
      refine wp_region_quiet_below (by kernel_rfl) (by kernel_rfl) ?_
      repeat (first | go_big_quiet_step (first | (go_at_call 72; exact c1 _ _ _)) | quiet_step (first | (go_at_call 72; exact c1 _ _ _)))
      refine wpQuiet_nil ?_
      intro _ hw'
      obtain ⟨⟨dq,osq⟩,hw''⟩ := hw'
      subst hw''
      have HBv := Lib.hid (bchain HBW.out (below_regrown W dq osq))
      go_wp2
      go_roundw
      case rel => exact ⟨1,by omega,rfl,Lib.hid (by rw [← HK.out,HSt.out,HO.out,Bool.true_and]),HBv⟩
      case measure => simp [intOf]; omega
     ·
      obtain ⟨j,rfl⟩ : ∃ j,k = j + 1 := ⟨k - 1,by omega⟩
      have hjr : j < rs.length := by omega
      obtain ⟨q,hq⟩ : ∃ q,rs[j] = q := ⟨_,rfl⟩
      have hrow2 := (HR.out.row j hjr).below HBW.out
      rw [hq] at hrow2
      obtain ⟨f0,f1,f2,f3⟩ := hrow2
      have m0 := cell_regrown f0
      have m1 := cell_regrown f1
      have m2 := cell_regrown f2
      have m3 := cell_regrown f3
      have HO : Hid (Se.ok (Se.prevAt rs (j + 1)) r = Op.bytesLess q.name.toList r.name.toList) := by
       show _ = _
       unfold Se.ok
       rw [he,Se.prev_at hjr hq]
       rfl
      have hjs : ((j + 1 : Nat) : Int) - 1 = (j : Int) := by omega
      clear he hq hk0
      cases hlt2 : Op.bytesLess q.name.toList r.name.toList
      ·
       rw [hlt2] at HO
       go_wp2
       refine wp_region_quiet_below (by kernel_rfl) (by kernel_rfl) ?_
       repeat (first | go_big_quiet_step (first | (go_at_call 72; exact c1 _ _ _)) | quiet_step (first | (go_at_call 72; exact c1 _ _ _)))
       refine wpQuiet_nil ?_
       intro _ hw'
       obtain ⟨⟨dq,osq⟩,hw''⟩ := hw'
       subst hw''
       have HBv := Lib.hid (bchain HBW.out (below_regrown W dq osq))
       go_wp2
       go_ret
       exact ⟨ret_bool (by rw [HT.out,← HK.out,HSt.out,HO.out,Bool.false_and]),bchain HW.out HBv.out⟩
      ·
       rw [hlt2] at HO
       go_wp2
       refine wp_region_quiet_below (by kernel_rfl) (by kernel_rfl) ?_
       repeat (first | go_big_quiet_step (first | (go_at_call 72; exact c1 _ _ _)) | quiet_step (first | (go_at_call 72; exact c1 _ _ _)))
       refine wpQuiet_nil ?_
       intro _ hw'
       obtain ⟨⟨dq,osq⟩,hw''⟩ := hw'
       subst hw''
       have HBv := Lib.hid (bchain HBW.out (below_regrown W dq osq))
       go_wp2
       go_roundw
       case rel => exact ⟨j + 1 + 1,by omega,by go_num,Lib.hid (by rw [← HK.out,HSt.out,HO.out,Bool.true_and]),HBv⟩
       case measure => simp [intOf]; omega
   ·
    obtain rfl : k = n := by omega
    go_wp2
    go_ret
    exact ⟨ret_bool (by rw [HT.out,← HK.out,List.drop_eq_nil_of_le (Nat.le_of_eq HN.out.symm)]; rfl),bchain HW.out HB.out⟩
end Go.Proofs.YtillcleccjgocaaGreat
namespace Go.Proofs.YtillcleccjgocaaGreat
open Go.RowKit
open Mem
open Go.Sort (grow)
namespace Sr
theorem flat_cell (r : T) (p : Nat) (x : Value) (hp : p < 4) : ∀ (M : List T) (k : Nat) (hk : k < M.length),rv r = (rv M[k]).set p x → (M.set k r).flatMap rv = (M.flatMap rv).set (k * 4 + p) x
 | a :: l,0,_,h => by
  have h' : rv r = (rv a).set p x := h
  rw [List.set_cons_zero,List.flatMap_cons,List.flatMap_cons,Nat.zero_mul,Nat.zero_add,List.set_append_left _ _ (by rw [rv_len]; exact hp),h']
 | a :: l,k + 1,hk,h => by
  have ih := flat_cell r p x hp l k (by simpa using hk) (by simpa using h)
  rw [List.set_cons_succ,List.flatMap_cons,List.flatMap_cons,List.set_append_right _ _ (by rw [rv_len]; omega),rv_len,show (k + 1) * 4 + p - 4 = k * 4 + p by omega,ih]
theorem own_cell {w : World} {B g n cap : Nat} {M : List T} (h : Own w B (.slice (some ⟨g,0,none⟩) n cap) M) (k p : Nat) (hk : k < M.length) (hp : p < 4) (x : Value) (r : T) (hr : rv r = (rv M[k]).set p x) :
  Own (w.setCell ⟨g,k * 4 + p,none⟩ x) B (.slice (some ⟨g,0,none⟩) n cap) (M.set k r) := by
 rcases h.2 with ⟨h',_⟩ | ⟨g',cap',cur,h',hb,hg,hnc,hcm,hcs,htake⟩
 · cases h'
 ·
  simp only [Value.slice.injEq,Option.some.injEq,Addr.mk.injEq,and_true] at h'
  obtain ⟨e1,e2,e3⟩ := h'
  subst e1 e3
  have h1 := heap_setCell_same _ g (k * 4 + p) _ _ x hg
  refine ⟨by rw [flat_len],.inr ⟨g,cap,_,by rw [List.length_set,e2],hb,h1,by rw [List.length_set]; exact hnc,hcm,by simpa using hcs,?_⟩⟩
  rw [List.length_set,flat_cell r p x hp M k hk hr]
  simp only [Array.toList_setIfInBounds]
  rw [← htake]
  simp only [List.take_set]
end Sr
end Go.Proofs.YtillcleccjgocaaGreat
namespace Go.Proofs.YtillcleccjgocaaGreat.Bl
open Vt (Rt)
theorem fit_0 : Fit 0 := ⟨by omega,by omega⟩
end Go.Proofs.YtillcleccjgocaaGreat.Bl
namespace Go.Proofs.YtillcleccjgocaaGreat
open Go.RowKit
open Mem
open Go.Sort (grow)
set_option maxHeartbeats 2000000 in
theorem post_right (ls : List Ba.T) (ao : Option Addr) (n cap : Nat) (w0 w : World) (hw : Below w0.heap.size w0 w) (hL : Ba.Ls w ao n cap ls) :
  Calls Tryz.prog 123 #[.slice ao n cap] w fun e w' => e = .returned (.bool (Po.rightB ls)) ∧ Below w0.heap.size w0 w' := by
 have HW := Lib.hid hw
 have HL := Lib.hid hL
 have HN := Lib.hid hL.len
 have hcap := hL.reach
 have hfit := hL.fits
 clear hw hL
 go_enter Tryz.func123,Tryz.ntmps123
 go_wp2_with fail
 go_loopw [3] (fun i wr => ∃ k : Nat,k ≤ n ∧ i = .int .i64 ((k + 1 : Nat) : Int) ∧ Hid (∀ i,i < k → (hi : i + 1 < ls.length) → Po.lt ls[i].acct ls[i + 1].acct = true) ∧ Hid (Below w.heap.size w wr)) (fun i _ => n + 1 - (intOf i).toNat)
 case atStart => exact ⟨0,by omega,rfl,Lib.hid (fun i hi => by omega),Lib.hid (Below.refl _ _)⟩
 case round =>
  rename World => wz
  obtain ⟨k,hk,rfl,HK,HB⟩ := hrel
  by_cases hlt : k + 1 < n
  ·
   obtain ⟨b,off,rfl⟩ := HL.out.at (by omega)
   have hk1 : k + 1 < ls.length := HN.out ▸ hlt
   have hr1 := (HL.out.row k (by omega)).below HB.out
   have hr2 := (HL.out.row (k + 1) hk1).below HB.out
   obtain ⟨x,hx⟩ : ∃ x,ls[k] = x := ⟨_,rfl⟩
   obtain ⟨y,hy⟩ : ∃ y,ls[k + 1] = y := ⟨_,rfl⟩
   have HX := Lib.hid hx
   have HY := Lib.hid hy
   rw [hx] at hr1
   rw [hy] at hr2
   obtain ⟨g0,g1⟩ := hr1
   obtain ⟨f0,f1⟩ := hr2
   have k0 := cell_regrown g0
   have l0 := cell_regrown f0
   clear hx hy
   cases hc : Op.bytesLess x.acct.toList y.acct.toList
   ·
    have HE : Hid (Po.rightB ls = false) := Lib.hid (Po.right_no hk1 (by rw [HX.out,HY.out]; exact hc))
    go_wp2
    refine wp_region_quiet_below (by kernel_rfl) (by kernel_rfl) ?_
    repeat (first | go_big_quiet_step (fail) | quiet_step (fail))
    refine wpQuiet_nil ?_
    intro _ hw'
    obtain ⟨⟨dq,osq⟩,hw''⟩ := hw'
    subst hw''
    have HBv := Lib.hid (bchain HB.out (below_regrown wz dq osq))
    go_wp2
    go_ret
    exact ⟨ret_bool HE.out.symm,bchain HW.out HBv.out⟩
   ·
    have HK2 : Hid (∀ i,i < k + 1 → (hi : i + 1 < ls.length) → Po.lt ls[i].acct ls[i + 1].acct = true) := Lib.hid (by
     intro i hi hil
     by_cases e : i < k
     · exact HK.out i e hil
     ·
      obtain rfl : i = k := by omega
      rw [HX.out,HY.out]
      exact hc)
    go_wp2
    refine wp_region_quiet_below (by kernel_rfl) (by kernel_rfl) ?_
    repeat (first | go_big_quiet_step (fail) | quiet_step (fail))
    refine wpQuiet_nil ?_
    intro _ hw'
    obtain ⟨⟨dq,osq⟩,hw''⟩ := hw'
    subst hw''
    have HBv := Lib.hid (bchain HB.out (below_regrown wz dq osq))
    go_wp2
    go_roundw
    case rel => exact ⟨k + 1,by omega,by go_num,HK2,HBv⟩
    case measure => simp [intOf]; omega
  ·
   have HE : Hid (Po.rightB ls = true) := Lib.hid (Po.right_yes fun i hi => HK.out i (by have := HN.out; omega) hi)
   have hnk : (n : Int) ≤ (k : Int) + 1 := by omega
   go_wp2
   go_ret
   exact ⟨ret_bool HE.out.symm,bchain HW.out HB.out⟩
set_option maxHeartbeats 2000000 in
theorem post_place (ls : List Ba.T) (c : ByteArray) (ao : Option Addr) (n cap : Nat) (w : World) (hL : Ba.Ls w ao n cap ls) (hS : Po.Sorted ls) :
  Calls Tryz.prog 125 #[.slice ao n cap,.string c] w fun e w' => e = .returned (.int .i64 ((Po.spot c ls : Nat) : Int)) ∧ w' = w := by
 have HL := Lib.hid hL
 have HN := Lib.hid hL.len
 have HS := Lib.hid hS
 have HP : Hid (Po.spot c ls ≤ n) := Lib.hid (by rw [hL.len]; exact Po.spot_le c ls)
 have hcap := hL.reach
 have hfit := hL.fits
 clear hL hS
 go_enter Tryz.func125,Tryz.ntmps125
 go_wp2_with fail
 go_loopw [5,6,7] (fun a b _ wr => ∃ i j : Nat,i ≤ j ∧ j ≤ n ∧ a = .int .i64 i ∧ b = .int .i64 j ∧ wr = w ∧ Hid (i ≤ Po.spot c ls ∧ Po.spot c ls ≤ j)) (fun a b _ _ => (intOf b).toNat - (intOf a).toNat)
 case atStart => exact ⟨0,n,by omega,by omega,rfl,rfl,rfl,Lib.hid ⟨Nat.zero_le _,HP.out⟩⟩
 case round =>
  obtain ⟨i,j,hij,hj,rfl,rfl,rfl,HI⟩ := hrel
  by_cases hlt : i < j
  ·
   obtain ⟨m,hm⟩ : ∃ m,i + (j - i) / 2 = m := ⟨_,rfl⟩
   have hm1 : i ≤ m := by omega
   have hm2 : m < j := by omega
   obtain ⟨b,off,rfl⟩ := HL.out.at (by omega)
   have hml : m < ls.length := by have := HN.out; omega
   have hrow := HL.out.row m hml
   have HU : Hid (Po.lt ls[m].acct c = true → m + 1 ≤ Po.spot c ls) := Lib.hid (Po.half_up HS.out hml)
   have HD : Hid (Po.lt ls[m].acct c = false → Po.spot c ls ≤ m) := Lib.hid (Po.half_down hml)
   obtain ⟨x,hx⟩ : ∃ x,ls[m] = x := ⟨_,rfl⟩
   rw [hx] at hrow HU HD
   clear hx
   obtain ⟨r0,r1⟩ := hrow
   have hq : ((j : Int) - (i : Int)).tdiv 2 = (m : Int) - (i : Int) := by
    rw [Int.tdiv_eq_ediv_of_nonneg (by omega)]
    omega
   have hq' : ((j : Int) - (i : Int)) / 2 = (m : Int) - (i : Int) := by omega
   have hsum : (i : Int) + ((m : Int) - (i : Int)) = (m : Int) := by omega
   clear hm
   cases hc : Op.bytesLess x.acct.toList c.toList
   ·
    have HE := Lib.hid (HD.out hc)
    go_wp2_with fail
    go_roundw
    case rel => exact ⟨i,m,hm1,by omega,rfl,by go_num,trivial,Lib.hid ⟨HI.out.1,HE.out⟩⟩
    case measure => simp [intOf]; omega
   ·
    have HE := Lib.hid (HU.out hc)
    go_wp2_with fail
    go_roundw
    case rel => exact ⟨m + 1,j,by omega,hj,by go_num,rfl,trivial,Lib.hid ⟨HE.out,HI.out.2⟩⟩
    case measure => simp [intOf]; omega
  ·
   obtain rfl : i = j := by omega
   have HE : Hid (Po.spot c ls = i) := Lib.hid (Nat.le_antisymm HI.out.2 HI.out.1)
   go_wp2_with fail
   go_ret
   exact ⟨by rw [HE.out]; rfl,rfl⟩
set_option maxHeartbeats 2000000 in
theorem post_has (ls : List Ba.T) (c : ByteArray) (ao : Option Addr) (n cap : Nat) (w : World) (hL : Ba.Ls w ao n cap ls) (hS : Po.Sorted ls) :
  Calls Tryz.prog 159 #[.slice ao n cap,.string c] w fun e w' => e = .returned (.bool (Po.has c ls)) ∧ w' = w := by
 have HL := Lib.hid hL
 have HN := Lib.hid hL.len
 have HP := Lib.hid (post_place ls c ao n cap w hL hS)
 have HH := Lib.hid (Po.has_spot c ls)
 have hcap := hL.reach
 have hfit := hL.fits
 clear hL hS
 obtain ⟨s,hs⟩ : ∃ s,Po.spot c ls = s := ⟨_,rfl⟩
 rw [hs] at HP HH
 clear hs
 go_enter Tryz.func159,Tryz.ntmps159
 go_wp2_with fail
 refine HP.out.mono ?_
 rintro e w1 ⟨rfl,rfl⟩
 rename World => u
 by_cases hlt : s < n
 ·
  obtain ⟨b,off,rfl⟩ := HL.out.at (by omega)
  have hsl : s < ls.length := HN.out ▸ hlt
  have hrow := HL.out.row s hsl
  have HV : Hid (Po.has c ls = decide (ls[s].acct = c)) := Lib.hid (by rw [HH.out,List.getElem?_eq_getElem hsl])
  obtain ⟨x,hx⟩ : ∃ x,ls[s] = x := ⟨_,rfl⟩
  rw [hx] at hrow HV
  clear hx
  obtain ⟨r0,r1⟩ := hrow
  by_cases e : x.acct = c
  ·
   have q0 : (x.acct.toList == c.toList) = true := beq_iff_eq.2 (by rw [e])
   have HE : Hid (Po.has c ls = true) := Lib.hid (by rw [HV.out]; exact decide_eq_true e)
   clear e
   go_wp2_with fail
   go_ret
   exact ⟨ret_bool HE.out.symm,rfl⟩
  ·
   have q0 : (x.acct.toList == c.toList) = false := beq_eq_false_iff_ne.2 fun h => e (Vt.cat_ext h)
   have HE : Hid (Po.has c ls = false) := Lib.hid (by rw [HV.out]; exact decide_eq_false e)
   clear e
   go_wp2_with fail
   go_ret
   exact ⟨ret_bool HE.out.symm,rfl⟩
 ·
  have HE : Hid (Po.has c ls = false) := Lib.hid (by rw [HH.out,List.getElem?_eq_none (by rw [← HN.out]; omega)])
  go_wp2_with fail
  go_ret
  exact ⟨ret_bool HE.out.symm,rfl⟩
end Go.Proofs.YtillcleccjgocaaGreat
namespace Go.Proofs.YtillcleccjgocaaGreat.Ba
open Go.RowKit
theorem own_some {w : World} {B n cap : Nat} {ao : Option Addr} {xs : List T} (h : Own w B (.slice ao n cap) xs) (hn : 0 < n) : ∃ g,ao = some ⟨g,0,none⟩ := by
 rcases h.2 with ⟨h',h2⟩ | ⟨g,c,cur,h',_⟩
 ·
  cases h'
  omega
 ·
  cases h'
  exact ⟨g,rfl⟩
theorem own_lt {w : World} {B n cap vg : Nat} {M : List T} (h : Own w B (.slice (some ⟨vg,0,none⟩) n cap) M) : vg < w.heap.size := by
 rcases h.2 with ⟨h',h0⟩ | ⟨g',c',cu,h',_,hg,_⟩
 · cases h'
 ·
  simp only [Value.slice.injEq,Option.some.injEq,Addr.mk.injEq,and_true] at h'
  obtain ⟨hl,_⟩ := Array.getElem?_eq_some_iff.1 hg
  rw [h'.1]
  exact hl
end Go.Proofs.YtillcleccjgocaaGreat.Ba
