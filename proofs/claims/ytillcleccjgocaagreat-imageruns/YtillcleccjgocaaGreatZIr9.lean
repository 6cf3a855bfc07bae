import Derived.Deep.RegionHeld3
import Derived.Laws.CopyOwn
import Derived.Laws.MakeOwn
import Derived.Test.YtillcleccjgocaaGreatZIr1
import Derived.Test.YtillcleccjgocaaGreatZIr2
import Derived.Test.YtillcleccjgocaaGreatZIr3
import Derived.Test.YtillcleccjgocaaGreatZIr4
import Derived.Test.YtillcleccjgocaaGreatZIr5
import Derived.Test.YtillcleccjgocaaGreatZIr6
import Derived.Test.YtillcleccjgocaaGreatZIr7
import Derived.Test.YtillcleccjgocaaGreatZIr8
set_option maxRecDepth 100000
set_option linter.unusedVariables false
namespace Go.Proofs.YtillcleccjgocaaGreat
open Go.RowKit
open Mem
open Go.Sort (grow)
theorem Bl.flat_take {ps : List Bl.Ps} {k : Nat} (h : k < ps.length) : Bl.flat (ps.take (k + 1)) = Bl.flat (ps.take k) ++ Po.entrL ps[k].tot.gross ps[k].tot.parts := by
 unfold Bl.flat
 rw [List.take_succ_eq_append_getElem h,List.flatMap_append,List.flatMap_cons,List.flatMap_nil,List.append_nil]
theorem Bl.flat_len : ∀ {ps : List Bl.Ps},Bl.EachR ps → (Bl.flat ps).length ≤ 25 * ps.length
 | [],_ => Nat.le_refl _
 | p :: l,h => by
  have h1 := Bl.flat_len (ps := l) fun q hq => h q (by simp [hq])
  have h2 := Po.entrL_len p.tot.gross p.tot.parts
  have h3 := (h p (by simp)).2.few
  have e : Bl.flat (p :: l) = Po.entrL p.tot.gross p.tot.parts ++ Bl.flat l := rfl
  rw [e,List.length_append,List.length_cons]
  omega
theorem Bl.eachR_take {ps : List Bl.Ps} (h : Bl.EachR ps) (k : Nat) : Bl.EachR (ps.take k) := fun p hp => h p (List.mem_of_mem_take hp)
set_option maxHeartbeats 8000000 in
theorem bil_booked (ps : List Bl.Ps) (bs : List Ba.T) (rs : List Pd.T) (ao bo : Option Addr) (n cap nb cb : Nat) (w0 w : World) (hw : Below w0.heap.size w0 w) (hL : Pd.Ls w ao n cap rs) (hE : Bl.Each w rs ps) (hB : Ba.Ls w bo nb cb bs) (hR : Bl.EachR ps) (hn : n ≤ 40) :
  Calls Tryz.prog 34 #[.slice ao n cap,.slice bo nb cb] w (Bl.YesE w0 (Bl.BookR ps bs)) := by
 have HW := Lib.hid hw
 have HL := Lib.hid hL
 have HN := Lib.hid hL.len
 have HE := Lib.hid hE
 have HBk := Lib.hid hB
 have HR := Lib.hid hR
 have hcap := hL.reach
 have hfit := hL.fits
 have hcb := hB.reach
 have hfb := hB.fits
 clear hL hw hE hB hR
 go_enter Tryz.func34,Tryz.ntmps34
 go_wp2_with fail
 go_loopw [5,7,8,9,14] (fun t _ _ _ j wr => ∃ (k : Nat) (vo : Option Addr) (q vc : Nat),k ≤ n ∧ j = .int .i64 k ∧ t = .slice vo q vc ∧ Hid (∀ p ∈ ps.take k,Po.entrE p.tot.parts = 0) ∧ Hid (Below w.heap.size w wr) ∧ Hid (Ba.Own wr w.heap.size (.slice vo q vc) (Bl.flat (ps.take k))) ∧ Hid (∀ r ∈ Bl.flat (ps.take k),Ba.Short r)) (fun _ _ _ _ j _ => n - (intOf j).toNat)
 case atStart => exact ⟨0,none,0,0,by omega,rfl,rfl,Lib.hid (fun _ h => by cases h),Lib.hid (Below.refl _ _),Lib.hid (Ba.own_nil w _),Lib.hid (fun _ h => by cases h)⟩
 case round =>
  obtain ⟨k,vo,q,vc,hk,rfl,rfl,HT,HB,HO,HS0⟩ := hrel
  by_cases hlt : k < n
  ·
   obtain ⟨b,off,rfl⟩ := HL.out.at (by omega)
   have hkl : k < rs.length := HN.out ▸ hlt
   have hkp : k < ps.length := HE.out.len ▸ hkl
   have hrow := (HL.out.row k hkl).below HB.out
   have HSh := Lib.hid (HL.out.short _ (List.getElem_mem hkl))
   have hI := HE.out.each k hkl
   have HMe := Lib.hid (List.getElem_mem hkp)
   have HS := Lib.hid (List.take_succ_eq_append_getElem hkp)
   have HF := Lib.hid (Bl.flat_take hkp)
   have HTo := Lib.hid (HR.out _ (List.getElem_mem hkp)).2
   have HFl : Hid ((Bl.flat (ps.take k)).length ≤ 1000) := Lib.hid (by
    have h1 := Bl.flat_len (Bl.eachR_take HR.out k)
    rw [List.length_take] at h1
    omega)
   obtain ⟨r,hr⟩ : ∃ r,rs[k] = r := ⟨_,rfl⟩
   obtain ⟨p,hp⟩ : ∃ p,ps[k] = p := ⟨_,rfl⟩
   rw [hr] at hrow hI HSh
   rw [hp] at hI HS HMe HF HTo
   clear hr hp
   have hA := Pd.c_box wr r
   have hbW := Pd.below_own wr r
   have HBW := Lib.hid (bchain HB.out hbW)
   have HOW := Lib.hid (Ba.own_below HO.out hbW)
   have HI := Lib.hid (hI.below (bchain HB.out hbW))
   unfold Pd.C at hA
   obtain ⟨a0,a1,a2,a3,a4,a5,a6,a7,a8,a9,a10,a11⟩ := hA
   have HG : Hid (Fit p.tot.gross) := Lib.hid (HI.out.gross ▸ HSh.out.2.2.2.2.2.2.2.1)
   have HEn : Hid (Calls Tryz.prog 80 #[.agg #[.int .i64 r.net,.int .i64 r.tax,.int .i64 r.gross,.slice r.parts.ao r.parts.n r.parts.cap]] (Pd.box wr r) (EntrE (Pd.box wr r) p.tot.gross p.tot.parts)) := Lib.hid (by
    rw [HI.out.net,HI.out.tax,HI.out.gross]
    exact post_entries p.tot.net p.tot.tax p.tot.gross p.tot.parts r.parts.ao r.parts.n r.parts.cap (Pd.box wr r) HI.out.parts HG.out (by have h1 := HI.out.parts.len; have h2 := HTo.out.few; omega) HTo.out.small)
   have HPs := Lib.hid (Po.entrR_short HG.out HI.out.parts.short HTo.out.small)
   have HEL : Hid ((Po.entrL p.tot.gross p.tot.parts).length ≤ 25) := Lib.hid (by
    have h1 := Po.entrL_len p.tot.gross p.tot.parts
    have h2 := HTo.out.few
    omega)
   clear hI hbW HO
   go_wp2_with (first | ((with_reducible apply Pd.wpl_load hrow); rfl; rfl; rfl) | ((with_reducible apply Pd.wpl_store (r := r) (g := wr.heap.size)); rfl; rfl; rfl; rfl; rfl; rfl))
   refine HEn.out.mono ?_
   rintro e w1 ⟨v,rfl,o1,b1⟩
   have HB1 := Lib.hid (bchain HBW.out b1)
   have HO1 := Lib.hid (Ba.own_below HOW.out b1)
   clear b1 a0 a1 a2 a3 a4 a5 a6 a7 a8 a9 a10 a11 hrow HEn
   by_cases h0 : Po.entrE p.tot.parts = 0
   ·
    have hRR : Po.entrR p.tot.gross p.tot.parts = Po.entrL p.tot.gross p.tot.parts := if_pos h0
    have HE0 := Lib.hid h0
    rw [hRR] at o1 HPs
    rw [h0]
    clear hRR h0
    obtain ⟨L,hL⟩ : ∃ L,Po.entrL p.tot.gross p.tot.parts = L := ⟨_,rfl⟩
    rw [hL] at o1 HPs HEL HF
    clear hL
    obtain ⟨lo,lc,rfl,l1,_⟩ := Ba.own_ls o1 HPs.out
    have HL1 := Lib.hid l1
    have HLn := Lib.hid l1.len
    obtain ⟨m,hm⟩ : ∃ m,L.length = m := ⟨_,rfl⟩
    rw [hm] at HL1 HLn HEL ⊢
    have HM := Lib.hid hm
    clear hm o1 l1
    go_wp2_with (at_builtin; go_must (refine Ba.wpList_append _ rfl (.tmp 26) (.tmp 27) rfl w.heap.size (.slice vo q vc) (Bl.flat (ps.take k)) rfl HO1.out lo m lc L rfl HM.out.symm HL1.out.nil HL1.out.seg (by have := HFl.out; have := HEL.out; omega) HB1.out.size ?_))
    intro v2 w2 o2 gr2 _
    have HB2 : Hid (Below w.heap.size w w2) := Lib.hid (HB1.out.grown gr2 HB1.out.size (Ba.own_ge HO1.out))
    obtain ⟨va,q2,vc2,hv⟩ := own_slice o2
    subst hv
    have HO2 := Lib.hid o2
    clear gr2 o2
    go_wp2_with fail
    go_roundw
    case rel =>
     refine ⟨k + 1,va,q2,vc2,by omega,by go_num,rfl,Lib.hid ?_,HB2,Lib.hid ?_,Lib.hid ?_⟩
     ·
      rw [HS.out]
      intro y hy
      rcases List.mem_append.1 hy with h | h
      · exact HT.out y h
      ·
       rw [List.mem_singleton.1 h]
       exact HE0.out
     ·
      rw [HF.out]
      exact HO2.out
     ·
      rw [HF.out]
      intro y hy
      rcases List.mem_append.1 hy with h | h
      · exact HS0.out y h
      · exact HPs.out y h
    case measure => simp [intOf]; omega
   ·
    have hq : (Po.entrE p.tot.parts == 0) = false := beq_eq_false_iff_ne.2 h0
    have HNo : Hid (¬ Bl.BookR ps bs) := Lib.hid fun z => h0 (z.entr p HMe.out)
    obtain ⟨E,hE⟩ : ∃ E,Po.entrE p.tot.parts = E := ⟨_,rfl⟩
    rw [hE] at hq ⊢
    clear hE h0 o1
    go_wp2_with fail
    go_ret
    exact ⟨.inr ⟨HNo.out,rfl⟩,bchain HW.out HB1.out⟩
  ·
   obtain rfl : k = n := by omega
   have e0 : ps.take k = ps := List.take_of_length_le (by rw [HN.out,HE.out.len]; exact Nat.le_refl _)
   rw [e0] at HT HO HS0
   have HFl : Hid ((Bl.flat ps).length ≤ 1000) := Lib.hid (by
    have h1 := Bl.flat_len HR.out
    have h2 := HN.out
    have h3 := HE.out.len
    omega)
   clear e0
   obtain ⟨L,hL⟩ : ∃ L,Bl.flat ps = L := ⟨_,rfl⟩
   have HFL := Lib.hid hL
   rw [hL] at HO HS0 HFl
   clear hL
   obtain ⟨lo,lc,e,l1,_⟩ := Ba.own_ls HO.out HS0.out
   simp only [Value.slice.injEq] at e
   obtain ⟨e1,e2,e3⟩ := e
   subst e1 e3
   rw [← e2] at l1
   have HL1 := Lib.hid l1
   have HQ : Hid (q ≤ 1000) := Lib.hid (by have := HFl.out; omega)
   clear l1 e2
   go_wp2_with fail
   refine (post_enter [] L none vo 0 0 q vc wr (Ba.ls_nil _) HL1.out (by omega) HQ.out).mono ?_
   rintro e w1 ⟨v,rfl,o1,b1⟩
   have HB1 := Lib.hid (bchain HB.out b1)
   have HSB := Lib.hid (Po.entL_short (fun r (h : r ∈ ([] : List Ba.T)) => by cases h) HS0.out)
   clear b1
   by_cases h0 : Po.entE [] L = 0
   ·
    have hLL : Po.entL [] L = Po.goL L [] := if_pos h0
    have HE0 := Lib.hid h0
    rw [h0]
    rw [hLL] at o1 HSB
    clear h0 hLL
    obtain ⟨C,hC⟩ : ∃ C,Po.goL L [] = C := ⟨_,rfl⟩
    rw [hC] at o1 HSB
    have HC := Lib.hid hC
    clear hC
    obtain ⟨co,cc,rfl,l2,_⟩ := Ba.own_ls o1 HSB.out
    have HL2 := Lib.hid l2
    obtain ⟨m,hm⟩ : ∃ m,C.length = m := ⟨_,rfl⟩
    rw [hm] at HL2 ⊢
    clear hm o1 l2
    go_wp2_with fail
    refine (Ba.equal_any C bs co bo m nb cc cb w1 w1 (Below.refl _ _) HL2.out (HBk.out.below HB1.out)).mono ?_
    rintro e w2 ⟨rfl,b2⟩
    have HB2 := Lib.hid (bchain HB1.out b2)
    clear b2
    cases hs : Ba.sameB C bs
    ·
     have HNo : Hid (¬ Bl.BookR ps bs) := Lib.hid fun z => by
      have h := z.book
      rw [HFL.out,HC.out] at h
      rw [h,Ba.sameB_self] at hs
      cases hs
     clear hs
     go_wp2_with fail
     go_ret
     exact ⟨.inr ⟨HNo.out,rfl⟩,bchain HW.out HB2.out⟩
    ·
     have HYes : Hid (Bl.BookR ps bs) := Lib.hid ⟨HT.out,by rw [HFL.out]; exact HE0.out,by rw [HFL.out,HC.out]; exact (Ba.sameB_iff _ _).1 hs⟩
     clear hs
     go_wp2_with fail
     go_ret
     exact ⟨.inl ⟨HYes.out,rfl⟩,bchain HW.out HB2.out⟩
   ·
    have hq : (Po.entE [] L == 0) = false := beq_eq_false_iff_ne.2 h0
    have HNo : Hid (¬ Bl.BookR ps bs) := Lib.hid fun z => h0 (by have h := z.entE; rw [HFL.out] at h; exact h)
    obtain ⟨E,hE⟩ : ∃ E,Po.entE [] L = E := ⟨_,rfl⟩
    rw [hE] at hq ⊢
    clear hE h0 o1
    go_wp2_with fail
    go_ret
    exact ⟨.inr ⟨HNo.out,rfl⟩,bchain HW.out HB1.out⟩
end Go.Proofs.YtillcleccjgocaaGreat
namespace Go.Proofs.YtillcleccjgocaaGreat
open Go.RowKit
open Mem Pk Cm
open Go.Sort (grow)
theorem Bl.enterAll_take {ps : List Bl.Ps} {k : Nat} (h : k < ps.length) {M : List Ba.T} (hM : Bl.enterAll (ps.take k) [] = some M) : Bl.enterAll (ps.take (k + 1)) [] = if Po.entrE ps[k].tot.parts = 0 ∧ Po.entE M (Po.entrL ps[k].tot.gross ps[k].tot.parts) = 0 then some (Po.goL (Po.entrL ps[k].tot.gross ps[k].tot.parts) M) else none := by
 rw [List.take_succ_eq_append_getElem h,Bl.enterAll_app,hM]
 show Bl.enterAll [ps[k]] M = _
 rw [Bl.enterAll]
 rfl
theorem Bl.enterAll_stop {ps : List Bl.Ps} {k : Nat} (h : Bl.enterAll (ps.take k) [] = none) : Bl.enterAll ps [] = none := by
 conv => lhs; rw [← List.take_append_drop k ps]
 rw [Bl.enterAll_app,h]
 rfl
set_option maxHeartbeats 8000000 in
theorem img_book (ps : List Bl.Ps) (rs : List Pd.T) (ao : Option Addr) (n cap : Nat) (w : World) (hL : Pd.Ls w ao n cap rs) (hE : Bl.Each w rs ps) (hn : n ≤ 40) (hp : ∀ p ∈ ps,p.tot.parts.length ≤ 12 ∧ ∀ x ∈ p.tot.parts,x.cat.size ≤ 140737488351232) :
  Calls Tryz.prog 57 #[.slice ao n cap] w fun e w' => ((∃ v b,e = .returned (.tuple #[v,.bool true]) ∧ Bl.enterAll ps [] = some b ∧ Ba.Own w' w.heap.size v b ∧ ∀ r ∈ b,Ba.Short r) ∨ (e = .returned (.tuple #[.slice none 0 0,.bool false]) ∧ Bl.enterAll ps [] = none)) ∧ Below w.heap.size w w' := by
 have HL := Lib.hid hL
 have HN := Lib.hid hL.len
 have HE := Lib.hid hE
 have HP := Lib.hid hp
 have hcap := hL.reach
 have hfit := hL.fits
 clear hL hE hp
 go_enter Tryz.func57,Tryz.ntmps57
 go_wp2_with fail
 go_loopw [4,6,7,8,11] (fun t _ _ _ j wr => ∃ (k : Nat) (vo : Option Addr) (q vc : Nat) (M : List Ba.T),k ≤ n ∧ j = .int .i64 k ∧ t = .slice vo q vc ∧ Hid (Bl.enterAll (ps.take k) [] = some M) ∧ Hid (Below w.heap.size w wr) ∧ Hid (Ba.Own wr w.heap.size (.slice vo q vc) M) ∧ Hid (∀ r ∈ M,Ba.Short r)) (fun _ _ _ _ j _ => n - (intOf j).toNat)
 case atStart => exact ⟨0,none,0,0,[],by omega,rfl,rfl,Lib.hid rfl,Lib.hid (Below.refl _ _),Lib.hid (Ba.own_nil w _),Lib.hid (fun _ h => by cases h)⟩
 case round =>
  rename World => wr
  obtain ⟨k,vo,q,vc,M,hk,rfl,rfl,HT,HB,HO,HS0⟩ := hrel
  by_cases hlt : k < n
  ·
   obtain ⟨b,off,rfl⟩ := HL.out.at (by omega)
   have hkl : k < rs.length := HN.out ▸ hlt
   have hkp : k < ps.length := HE.out.len ▸ hkl
   have hrow := (HL.out.row k hkl).below HB.out
   have HSh := Lib.hid (HL.out.short _ (List.getElem_mem hkl))
   have hI := HE.out.each k hkl
   have HTk := Lib.hid (Bl.enterAll_take hkp HT.out)
   have HTo := Lib.hid (HP.out _ (List.getElem_mem hkp))
   have HMl : Hid (M.length ≤ 1000) := Lib.hid (by
    have h1 := Bl.enterAll_len HT.out fun p hp => (HP.out p (List.mem_of_mem_take hp)).1
    rw [List.length_nil,List.length_take] at h1
    omega)
   obtain ⟨r,hr⟩ : ∃ r,rs[k] = r := ⟨_,rfl⟩
   obtain ⟨p,hp⟩ : ∃ p,ps[k] = p := ⟨_,rfl⟩
   rw [hr] at hrow hI HSh
   rw [hp] at hI HTk HTo
   clear hr hp
   have hA := Pd.c_box wr r
   have hbW := Pd.below_own wr r
   have HBW := Lib.hid (bchain HB.out hbW)
   have HOW := Lib.hid (Ba.own_below HO.out hbW)
   have HI := Lib.hid (hI.below (bchain HB.out hbW))
   unfold Pd.C at hA
   obtain ⟨a0,a1,a2,a3,a4,a5,a6,a7,a8,a9,a10,a11⟩ := hA
   have HG : Hid (Fit p.tot.gross) := Lib.hid (HI.out.gross ▸ HSh.out.2.2.2.2.2.2.2.1)
   have HEn : Hid (Calls Tryz.prog 80 #[.agg #[.int .i64 r.net,.int .i64 r.tax,.int .i64 r.gross,.slice r.parts.ao r.parts.n r.parts.cap]] (Pd.box wr r) (EntrE (Pd.box wr r) p.tot.gross p.tot.parts)) := Lib.hid (by
    rw [HI.out.net,HI.out.tax,HI.out.gross]
    exact post_entries p.tot.net p.tot.tax p.tot.gross p.tot.parts r.parts.ao r.parts.n r.parts.cap (Pd.box wr r) HI.out.parts HG.out (by have h1 := HI.out.parts.len; have h2 := HTo.out.1; omega) HTo.out.2)
   have HPs := Lib.hid (Po.entrR_short HG.out HI.out.parts.short HTo.out.2)
   have HEL : Hid ((Po.entrL p.tot.gross p.tot.parts).length ≤ 25) := Lib.hid (by
    have h1 := Po.entrL_len p.tot.gross p.tot.parts
    have h2 := HTo.out.1
    omega)
   clear hI hbW HO
   go_wp2_with (first | ((with_reducible apply Pd.wpl_load hrow); rfl; rfl; rfl) | ((with_reducible apply Pd.wpl_store (r := r) (g := wr.heap.size)); rfl; rfl; rfl; rfl; rfl; rfl))
   refine HEn.out.mono ?_
   rintro e w1 ⟨v,rfl,o1,b1⟩
   have HB1 := Lib.hid (bchain HBW.out b1)
   have HO1 := Lib.hid (Ba.own_below HOW.out b1)
   clear b1 a0 a1 a2 a3 a4 a5 a6 a7 a8 a9 a10 a11 hrow HEn
   by_cases h0 : Po.entrE p.tot.parts = 0
   ·
    have hRR : Po.entrR p.tot.gross p.tot.parts = Po.entrL p.tot.gross p.tot.parts := if_pos h0
    have HE0 := Lib.hid h0
    rw [hRR] at o1 HPs
    rw [h0]
    clear hRR h0
    obtain ⟨L,hL⟩ : ∃ L,Po.entrL p.tot.gross p.tot.parts = L := ⟨_,rfl⟩
    rw [hL] at o1 HPs HEL HTk
    clear hL
    obtain ⟨lo,lc,rfl,l1,_⟩ := Ba.own_ls o1 HPs.out
    have HL1 := Lib.hid l1
    obtain ⟨ml,hml⟩ : ∃ m,L.length = m := ⟨_,rfl⟩
    rw [hml] at HL1 HEL ⊢
    obtain ⟨mo,mc,hme,m1,_⟩ := Ba.own_ls HO1.out HS0.out
    simp only [Value.slice.injEq] at hme
    obtain ⟨rfl,hq,rfl⟩ := hme
    rw [← hq] at m1
    have HM1 := Lib.hid m1
    have HQ : Hid (q ≤ 1000) := Lib.hid (by have := HMl.out; omega)
    have HSn := Lib.hid (Po.entL_short HS0.out HPs.out)
    clear hml o1 l1 m1 hq HO1
    go_wp2_with fail
    refine (post_enter M L vo lo q vc ml lc w1 HM1.out HL1.out HQ.out (by have := HEL.out; omega)).mono ?_
    rintro e w2 ⟨v2,rfl,o2,b2⟩
    have HB2 := Lib.hid (bchain HB1.out b2)
    clear b2
    by_cases h1 : Po.entE M L = 0
    ·
     have hRR : Po.entL M L = Po.goL L M := if_pos h1
     have HTs : Hid (Bl.enterAll (ps.take (k + 1)) [] = some (Po.goL L M)) := Lib.hid (by rw [HTk.out,if_pos ⟨HE0.out,h1⟩])
     rw [hRR] at o2 HSn
     rw [h1]
     clear hRR h1
     obtain ⟨va,vcp,hv⟩ := rows_slice o2
     subst hv
     have HO2 := Lib.hid (Ba.own_mono o2 HB1.out.size)
     clear o2
     go_wp2_with fail
     go_roundw
     case rel => exact ⟨k + 1,_,_,_,_,by omega,by go_num,rfl,HTs,HB2,HO2,HSn⟩
     case measure => simp [intOf]; omega
    ·
     have qe : (Po.entE M L != 0) = true := bne_iff_ne.2 h1
     have HNo : Hid (Bl.enterAll ps [] = none) := Lib.hid (Bl.enterAll_stop (k := k + 1) (by rw [HTk.out,if_neg (fun z => h1 z.2)]))
     clear h1 o2
     go_wp2_with fail
     go_ret2
     exact ⟨.inr ⟨rfl,HNo.out⟩,HB2.out⟩
   ·
    have qe : (Po.entrE p.tot.parts != 0) = true := bne_iff_ne.2 h0
    have HNo : Hid (Bl.enterAll ps [] = none) := Lib.hid (Bl.enterAll_stop (k := k + 1) (by rw [HTk.out,if_neg (fun z => h0 z.1)]))
    clear h0 o1
    go_wp2_with fail
    go_ret2
    exact ⟨.inr ⟨rfl,HNo.out⟩,HB1.out⟩
  ·
   obtain rfl : k = n := by omega
   have HF : Hid (Bl.enterAll ps [] = some M) := Lib.hid (by
    rw [← HT.out,List.take_of_length_le (by rw [← HE.out.len,HN.out]; exact Nat.le_refl _)])
   go_wp2_with fail
   go_ret2
   exact ⟨.inl ⟨_,M,rfl,HF.out,HO.out,HS0.out⟩,HB.out⟩
end Go.Proofs.YtillcleccjgocaaGreat
namespace Go.Proofs.YtillcleccjgocaaGreat
open Go.RowKit
open Mem Pk Cm
open Go.Sort (grow)
theorem Im.cnt_each {w : World} (c : ByteArray) : ∀ {rs : List Pd.T} {ps : List Bl.Ps},rs.map (·.ser) = ps.map (·.ser) → Im.cntR c rs = Bl.cnt c ps
 | [],[],_ => rfl
 | [],_ :: _,h => by cases h
 | _ :: _,[],h => by cases h
 | r :: l,p :: m,h => by
  rw [List.map_cons,List.map_cons,List.cons.injEq] at h
  rw [Im.cntR,Bl.cnt,Im.cnt_each (w := w) c h.2,h.1]
theorem Im.hit_each {c : ByteArray} {n : Int} : ∀ {rs : List Pd.T} {ps : List Bl.Ps},rs.map (fun r => (r.ofS,r.ofN)) = ps.map (fun r => (r.ofS,r.ofN)) → Im.hitR c n rs = Im.hitB c n ps
 | [],[],_ => rfl
 | [],_ :: _,h => by cases h
 | _ :: _,[],h => by cases h
 | a :: l,b :: m,h => by
  rw [List.map_cons,List.map_cons,List.cons.injEq,Prod.mk.injEq] at h
  have ih := Im.hit_each (c := c) (n := n) h.2
  unfold Im.hitR Im.hitB at ih ⊢
  rw [List.any_cons,List.any_cons,ih,h.1.1,h.1.2]
theorem Bl.Each.mapS {w : World} {rs : List Pd.T} {ps : List Bl.Ps} (h : Bl.Each w rs ps) {β : Type} (f : Pd.T → β) (g : Bl.Ps → β) (e : ∀ r p,Bl.IsP w r p → f r = g p) : rs.map f = ps.map g := by
 refine List.ext_getElem (by rw [List.length_map,List.length_map,h.len]) fun i h1 h2 => ?_
 rw [List.length_map] at h1
 rw [List.getElem_map,List.getElem_map]
 exact e _ _ (h.each i h1)
theorem Bl.Each.num {w : World} {rs : List Pd.T} {ps : List Bl.Ps} (h : Bl.Each w rs ps) : Bl.Each w (rs.mapIdx (Im.nF rs)) (Im.numF ps) := by
 refine ⟨by rw [List.length_mapIdx,Im.numF_len,h.len],fun i hi => ?_⟩
 rw [List.length_mapIdx] at hi
 have e := h.each i hi
 have hm := h.mapS (·.ser) (·.ser) fun _ _ z => z.ser
 have hc : Im.cntR rs[i].ser (rs.take i) = Bl.cnt (ps[i]'(h.len ▸ hi)).ser (ps.take i) := by
  rw [e.ser]
  exact Im.cnt_each (w := w) _ (by rw [List.map_take,List.map_take,hm])
 rw [List.getElem_mapIdx,Im.num_get]
 exact ⟨e.ser,by show (Im.cntR rs[i].ser (rs.take i) : Int) + 1 = _; rw [hc]; rfl,e.y,e.m,e.d,e.net,e.tax,e.gross,e.parts,e.ofS,e.ofN,e.back⟩
theorem Bl.Each.cred {w : World} {rs : List Pd.T} {ps : List Bl.Ps} (h : Bl.Each w rs ps) : Bl.Each w (rs.mapIdx (Im.bF rs)) (Im.credF ps) := by
 refine ⟨by rw [List.length_mapIdx,Im.credF_len,h.len],fun i hi => ?_⟩
 rw [List.length_mapIdx] at hi
 have e := h.each i hi
 have hm := h.mapS (fun r => (r.ofS,r.ofN)) (fun r => (r.ofS,r.ofN)) fun _ _ z => by rw [z.ofS,z.ofN]
 have hc : Im.hitR rs[i].ser rs[i].num (rs.drop (i + 1)) = Im.hitB (ps[i]'(h.len ▸ hi)).ser (ps[i]'(h.len ▸ hi)).num (ps.drop (i + 1)) := by
  rw [e.ser,e.num]
  exact Im.hit_each (by rw [List.map_drop,List.map_drop,hm])
 rw [List.getElem_mapIdx,Im.cred_get]
 exact ⟨e.ser,e.num,e.y,e.m,e.d,e.net,e.tax,e.gross,e.parts,e.ofS,e.ofN,hc⟩
section
variable {A B1 B2 B3 B4 : Nat} {w u : World} {h : Bl.Sv} {s : Bl.St} {rs : List Pd.T}
theorem Im.Rn.gpost (r : Im.Rn A B1 B2 B3 B4 w h s rs) (b : Nat) (e : (Bl.sl h.post).ownBlock = some b) : B2 ≤ b ∧ b < B3 := ⟨(World.ownsRow.lt r.post b e).1,r.postB b e⟩
theorem Im.Rn.gser (r : Im.Rn A B1 B2 B3 B4 w h s rs) (b : Nat) (e : (Bl.sl h.ser).ownBlock = some b) : B1 ≤ b ∧ b < B2 := ⟨(World.ownsRow.lt r.ser b e).1,r.serB b e⟩
theorem Im.Rn.gpart (r : Im.Rn A B1 B2 B3 B4 w h s rs) (i : Nat) (hi : i < rs.length) (b : Nat) (e : (Bl.sl rs[i].parts).ownBlock = some b) : B2 ≤ b ∧ b < B3 := ⟨(r.pto.lt r.each.len i hi b e).1,r.ptoB i hi b e⟩
theorem Im.Rn.rows (r : Im.Rn A B1 B2 B3 B4 w h s rs) {rs' : List Pd.T} {ps' : List Bl.Ps} (k : UpdQ (fun b => (Bl.sl h.post).ownBlock = some b) w u) (hO : Pd.Own u B2 (Bl.sl h.post) rs') (hl : rs'.length = rs.length) (hsh : ∀ x ∈ rs',Pd.Short x) (hE : Bl.Each w rs' ps') (hp : ∀ i (h1 : i < rs'.length) (h2 : i < rs.length),rs'[i].parts = rs[i].parts) (hq : ∀ i (h1 : i < ps'.length) (h2 : i < s.post.length),ps'[i].tot.parts = s.post[i].tot.parts) : Im.Rn A B1 B2 B3 B4 u h ⟨s.tab,s.ser,ps',s.book,s.sess,s.next⟩ rs' := by
 have kq : KpP (fun b => A ≤ b ∧ b < B4 ∧ (b < B1 ∨ B3 ≤ b)) w u := k.kpP fun b hb e => by
  have := r.gpost b e
  have := r.le2
  omega
 have hle := r.each.len
 have off : ∀ i (hi : i < rs'.length) b,(Bl.sl rs'[i].parts).ownBlock = some b → (Bl.sl h.post).ownBlock ≠ some b := fun i hi b e => by
  rw [hp i hi (hl ▸ hi)] at e
  exact r.pto.off i (hl ▸ hi) b e
 refine ⟨r.le1,r.le2,r.le3,r.le4,Nat.le_trans r.le5 k.size,k.rows r.ser fun b e q => ?_,r.serB,hO,r.postB,hsh,?_,?_,?_,r.tab.kpP r.ptab kq,r.sess.kpP r.psess kq,r.next,r.fit,r.ptab,r.psess⟩
 ·
  have h1 := r.gser b e
  have h2 := r.gpost b q
  omega
 ·
  refine ⟨hE.len,fun i hi => (hE.each i hi).kpP (P := fun b => (Bl.sl h.post).ownBlock ≠ some b) (fun hn b o e => off i hi b ?_) (k.kpP fun b hb => hb)⟩
  show (Value.slice rs'[i].parts.ao rs'[i].parts.n rs'[i].parts.cap).ownBlock = _
  rw [e]
  rfl
 ·
  refine ⟨fun i hi hk => ?_,off,fun i j hi hj hij b e => ?_⟩
  ·
   have hi' : i < rs.length := hl ▸ hi
   have h1 := r.pto.own i hi' (hle ▸ hi')
   rw [hp i hi hi',hq i hk (hle ▸ hi')]
   exact k.rows h1 fun b e q => r.pto.off i hi' b e q
  ·
   rw [hp i hi (hl ▸ hi)] at e
   rw [hp j hj (hl ▸ hj)]
   exact r.pto.apart i j (hl ▸ hi) (hl ▸ hj) hij b e
 ·
  intro i hi b e
  rw [hp i hi (hl ▸ hi)] at e
  exact r.ptoB i (hl ▸ hi) b e
theorem Im.Rn.sers (r : Im.Rn A B1 B2 B3 B4 w h s rs) {ss' : List Sr.T} (k : UpdQ (fun b => (Bl.sl h.ser).ownBlock = some b) w u) (hO : Sr.Own u B1 (Bl.sl h.ser) ss') : Im.Rn A B1 B2 B3 B4 u h ⟨s.tab,ss',s.post,s.book,s.sess,s.next⟩ rs := by
 have kq : KpP (fun b => A ≤ b ∧ b < B4 ∧ (b < B1 ∨ B3 ≤ b)) w u := k.kpP fun b hb e => by
  have := r.gser b e
  have := r.le3
  omega
 have hle := r.each.len
 have np : ∀ b,B2 ≤ b → ¬ (Bl.sl h.ser).ownBlock = some b := fun b hb e => by
  have := r.gser b e
  omega
 refine ⟨r.le1,r.le2,r.le3,r.le4,Nat.le_trans r.le5 k.size,hO,r.serB,k.rows r.post fun b e => np b (r.gpost b e).1,r.postB,r.short,?_,?_,r.ptoB,r.tab.kpP r.ptab kq,r.sess.kpP r.psess kq,r.next,r.fit,r.ptab,r.psess⟩
 ·
  refine ⟨hle,fun i hi => (r.each.each i hi).kpP (P := fun b => B2 ≤ b) (fun hn b o e => (r.gpart i hi b ?_).1) (k.kpP fun b hb => np b hb)⟩
  show (Value.slice rs[i].parts.ao rs[i].parts.n rs[i].parts.cap).ownBlock = _
  rw [e]
  rfl
 · exact ⟨fun i hi hk => k.rows (r.pto.own i hi hk) fun b e => np b (r.gpart i hi b e).1,r.pto.off,r.pto.apart⟩
theorem Im.Rn.one (r : Im.Rn A B1 B2 B3 B4 w h s rs) {k : Nat} (hk : k < rs.length) (hkp : k < s.post.length) {N T G : Int} {ts : List Pt.T} (hU : UpdQ (fun b => (Bl.sl h.post).ownBlock = some b ∨ (Bl.sl rs[k].parts).ownBlock = some b) w u) (hO : Pd.Own u B2 (Bl.sl h.post) (rs.set k (Im.rTot rs[k] N T G))) (hP : Pt.Own u B2 (Bl.sl rs[k].parts) ts) (hts : ∀ x ∈ ts,Pt.Short x) (hN : Fit N) (hT : Fit T) (hG : Fit G) :
  Im.Rn A B1 B2 B3 B4 u h ⟨s.tab,s.ser,s.post.set k (Im.setTot s.post[k] ⟨N,T,G,ts⟩),s.book,s.sess,s.next⟩ (rs.set k (Im.rTot rs[k] N T G)) := by
 have gq : ∀ b,((Bl.sl h.post).ownBlock = some b ∨ (Bl.sl rs[k].parts).ownBlock = some b) → B2 ≤ b ∧ b < B3 := fun b e => e.elim (r.gpost b) (r.gpart k hk b)
 have kq : KpP (fun b => A ≤ b ∧ b < B4 ∧ (b < B1 ∨ B3 ≤ b)) w u := hU.kpP fun b hb e => by
  have := gq b e
  have := r.le2
  omega
 have hle := r.each.len
 have pts : ∀ i (hi : i < (rs.set k (Im.rTot rs[k] N T G)).length),(rs.set k (Im.rTot rs[k] N T G))[i].parts = (rs[i]'(by rw [List.length_set] at hi; exact hi)).parts := fun i hi => by
  rw [List.getElem_set]
  by_cases e : k = i
  ·
   subst e
   rw [if_pos rfl]
   rfl
  · rw [if_neg e]
 have off : ∀ i (hi : i < rs.length),i ≠ k → ∀ b,(Bl.sl rs[i].parts).ownBlock = some b → ¬ ((Bl.sl h.post).ownBlock = some b ∨ (Bl.sl rs[k].parts).ownBlock = some b) := fun i hi hne b e z => by
  rcases z with z | z
  · exact r.pto.off i hi b e z
  ·
   rcases Nat.lt_or_ge i k with q | q
   · exact r.pto.apart i k hi hk q b e z
   · exact r.pto.apart k i hk hi (by omega) b z e
 refine ⟨r.le1,r.le2,r.le3,r.le4,Nat.le_trans r.le5 hU.size,hU.rows r.ser fun b e q => ?_,r.serB,hO,r.postB,?_,?_,?_,?_,r.tab.kpP r.ptab kq,r.sess.kpP r.psess kq,r.next,r.fit,r.ptab,r.psess⟩
 ·
  have h1 := r.gser b e
  have h2 := gq b q
  omega
 ·
  intro x hx
  rcases List.mem_or_eq_of_mem_set hx with hx | rfl
  · exact r.short x hx
  ·
   have h0 := r.short _ (List.getElem_mem hk)
   exact ⟨h0.1,h0.2.1,h0.2.2.1,h0.2.2.2.1,h0.2.2.2.2.1,hN,hT,hG,h0.2.2.2.2.2.2.2.2.1,h0.2.2.2.2.2.2.2.2.2⟩
 ·
  refine ⟨by rw [List.length_set,List.length_set,hle],fun i hi => ?_⟩
  rw [List.length_set] at hi
  have e := r.each.each i hi
  rw [List.getElem_set]
  simp only [List.getElem_set]
  by_cases q : k = i
  ·
   subst q
   simp only [if_pos]
   obtain ⟨ao,cap,e1,l1,_⟩ := Pt.own_ls hP hts
   unfold Bl.sl at e1
   simp only [Value.slice.injEq] at e1
   refine ⟨e.ser,e.num,e.y,e.m,e.d,rfl,rfl,rfl,?_,e.ofS,e.ofN,e.back⟩
   show Pt.Ls u rs[k].parts.ao rs[k].parts.n rs[k].parts.cap ts
   rw [e1.1,e1.2.1,e1.2.2]
   exact l1
  ·
   simp only [if_neg q]
   refine e.kpP (P := fun b => ¬ ((Bl.sl h.post).ownBlock = some b ∨ (Bl.sl rs[k].parts).ownBlock = some b)) (fun hn b o z => off i hi (fun y => q y.symm) b ?_) (hU.kpP fun b hb => hb)
   show (Value.slice rs[i].parts.ao rs[i].parts.n rs[i].parts.cap).ownBlock = _
   rw [z]
   rfl
 ·
  refine ⟨fun i hi hk2 => ?_,fun i hi b e => ?_,fun i j hi hj hij b e => ?_⟩
  ·
   rw [pts i hi]
   rw [List.length_set] at hi
   have hip : i < s.post.length := hle ▸ hi
   by_cases q : k = i
   ·
    subst q
    rw [List.getElem_set_self]
    exact hP
   ·
    rw [List.getElem_set_ne q]
    exact hU.rows (r.pto.own i hi hip) fun b e => off i hi (fun y => q y.symm) b e
  ·
   rw [pts i hi] at e
   exact r.pto.off i (by rw [List.length_set] at hi; exact hi) b e
  ·
   rw [pts i hi] at e
   rw [pts j hj]
   exact r.pto.apart i j (by rw [List.length_set] at hi; exact hi) (by rw [List.length_set] at hj; exact hj) hij b e
 ·
  intro i hi b e
  rw [pts i hi] at e
  exact r.ptoB i (by rw [List.length_set] at hi; exact hi) b e
end
theorem Im.netW_fit : ∀ (l : List Pt.T) {a : Int},Fit a → Fit (Im.netW a l)
 | [],_,h => h
 | _ :: l,_,_ => Im.netW_fit l (Im.wr_fit' _)
theorem Im.taxW_fit : ∀ (l : List Pt.T) {a : Int},Fit a → Fit (Im.taxW a l)
 | [],_,h => h
 | _ :: l,_,_ => Im.taxW_fit l (Im.wr_fit' _)
theorem Im.partF_short {x : Pt.T} (h : Pt.Short x) : Pt.Short (Im.partF x) := ⟨h.1,h.2.1,h.2.2.1,tax_fit _ _⟩
end Go.Proofs.YtillcleccjgocaaGreat
namespace Go.Proofs.YtillcleccjgocaaGreat
open Go.RowKit
open Mem Pk Cm
open Go.Sort (grow)
def Im.tF (_ : Nat) (p : Bl.Ps) : Bl.Ps := Im.setTot p (Im.totF p.tot)
set_option maxHeartbeats 1000000 in
theorem img_total_any {A B1 B2 B3 B4 : Nat} {w : World} {h : Bl.Sv} {s : Bl.St} {rs : List Pd.T} (r : Im.Rn A B1 B2 B3 B4 w h s rs) (k g : Nat) (hk : k < rs.length) (hkp : k < s.post.length) (hg : h.post.ao = some ⟨g,0,none⟩) (hm : s.post[k].tot.parts.length ≤ 1000) (hs : ∀ x ∈ s.post[k].tot.parts,Pt.Short x) :
  Calls Tryz.prog 56 #[.pointer (some ⟨g,k * 12 + 5,none⟩)] w fun e w' => ((e = .returned (.bool true) ∧ Im.totE s.post[k].tot = true ∧ ∃ rs',rs'.length = rs.length ∧ Im.Rn A B1 B2 B3 B4 w' h ⟨s.tab,s.ser,s.post.set k (Im.tF k s.post[k]),s.book,s.sess,s.next⟩ rs') ∨ (e = .returned (.bool false) ∧ Im.totE s.post[k].tot = false)) ∧ UpdQ (fun b => B2 ≤ b ∧ b < B3) w w' := by
 have hsl : Bl.sl h.post = .slice (some ⟨g,0,none⟩) h.post.n h.post.cap := by unfold Bl.sl; rw [hg]
 have hO := r.post
 have e := r.each.each k hk
 have hP := r.pto.own k hk hkp
 have hsh := r.short _ (List.getElem_mem hk)
 have gp := r.gpost g (by rw [hsl]; rfl)
 have hoff := r.pto.off k hk
 have hne : ∀ b,(Bl.sl rs[k].parts).ownBlock = some b → g ≠ b := fun b z q => hoff b z (by rw [hsl,← q]; rfl)
 obtain ⟨ts,hts⟩ : ∃ ts,s.post[k].tot.parts = ts := ⟨_,rfl⟩
 rw [hts] at hP hm hs
 have hTe : Im.totE s.post[k].tot = ts.all fun p => decide (Sh.taxE p.net p.bp = 0) := by unfold Im.totE; rw [hts]
 have hTf : Im.totF s.post[k].tot = ⟨Im.netW rs[k].net ts,Im.taxW rs[k].tax (ts.map Im.partF),Im.wr (Im.netW rs[k].net ts + Im.taxW rs[k].tax (ts.map Im.partF)),ts.map Im.partF⟩ := by unfold Im.totF; rw [hts,e.net,e.tax]
 have f1 : Fit (Im.netW rs[k].net ts) := Im.netW_fit _ hsh.2.2.2.2.2.1
 have f2 : Fit (Im.taxW rs[k].tax (ts.map Im.partF)) := Im.taxW_fit _ hsh.2.2.2.2.2.2.1
 have f3 := Im.wr_fit' (Im.netW rs[k].net ts + Im.taxW rs[k].tax (ts.map Im.partF))
 have hsF : ∀ x ∈ ts.map Im.partF,Pt.Short x := fun x hx => by
  obtain ⟨y,hy,rfl⟩ := List.mem_map.1 hx
  exact Im.partF_short (hs y hy)
 rcases hP.2 with ⟨h1,h2⟩ | ⟨pg,pc,cur,h1,hrest⟩
 ·
  have hnil : ts = [] := List.length_eq_zero_iff.1 h2
  have hpr : rs[k].parts = ⟨none,0,0⟩ := by
   unfold Bl.sl at h1
   simp only [Value.slice.injEq] at h1
   exact (show rs[k].parts = ⟨rs[k].parts.ao,rs[k].parts.n,rs[k].parts.cap⟩ from rfl).trans (by rw [h1.1,h1.2.1,h1.2.2])
  rw [hsl] at hO
  refine (img_total_nil rs k g h.post.n h.post.cap B2 hk w hO hpr).mono ?_
  rintro e' w' ⟨rfl,o1,u1⟩
  subst hnil
  have z := r.one (N := rs[k].net) (T := rs[k].tax) (G := Im.wr (rs[k].net + rs[k].tax)) (ts := []) hk hkp (u1.mono fun b q => .inl (by rw [hsl,show b = g from q]; rfl)) (by rw [hsl]; exact o1) (u1.rows hP fun b z q => hne b z (show b = g from q).symm) (fun x hx => by cases hx) f1 f2 f3
  refine ⟨.inl ⟨rfl,hTe,rs.set k (Im.rTot rs[k] rs[k].net rs[k].tax (Im.wr (rs[k].net + rs[k].tax))),List.length_set,?_⟩,u1.mono fun b q => by rw [show b = g from q]; exact gp⟩
  unfold Im.tF
  rw [hTf]
  exact z
 ·
  have hn : ts.length = rs[k].parts.n := by
   unfold Bl.sl at h1
   simp only [Value.slice.injEq] at h1
   exact h1.2.1.symm
  have hpr : rs[k].parts = ⟨some ⟨pg,0,none⟩,ts.length,pc⟩ := by
   unfold Bl.sl at h1
   simp only [Value.slice.injEq] at h1
   exact (show rs[k].parts = ⟨rs[k].parts.ao,rs[k].parts.n,rs[k].parts.cap⟩ from rfl).trans (by rw [h1.1,h1.2.1,h1.2.2])
  have hps : Bl.sl rs[k].parts = .slice (some ⟨pg,0,none⟩) ts.length pc := by rw [hpr]; rfl
  have gpp := r.gpart k hk pg (by rw [hps]; rfl)
  have hneq : g ≠ pg := hne pg (by rw [hps]; rfl)
  rw [hsl] at hO
  rw [hps] at hP
  refine (img_total rs ts k g pg h.post.n h.post.cap ts.length pc B2 B2 hk w hO hP hneq hpr rfl hm hs).mono ?_
  rintro e' w' ⟨h3,u1⟩
  refine ⟨?_,u1.mono fun b q => q.elim (fun z => by rw [z]; exact gp) fun z => by rw [z]; exact gpp⟩
  rcases h3 with ⟨rfl,h4,o1,p1⟩ | ⟨rfl,x,hx,h4⟩
  ·
   have z := r.one (N := Im.netW rs[k].net ts) (T := Im.taxW rs[k].tax (ts.map Im.partF)) (G := Im.wr (Im.netW rs[k].net ts + Im.taxW rs[k].tax (ts.map Im.partF))) (ts := ts.map Im.partF) hk hkp (u1.mono fun b q => q.elim (fun z => .inl (by rw [hsl,z]; rfl)) fun z => .inr (by rw [hps,z]; rfl)) (by rw [hsl]; exact o1) (by rw [hps]; exact p1) hsF f1 f2 f3
   refine .inl ⟨rfl,?_,rs.set k (Im.rTot rs[k] (Im.netW rs[k].net ts) (Im.taxW rs[k].tax (ts.map Im.partF)) (Im.wr (Im.netW rs[k].net ts + Im.taxW rs[k].tax (ts.map Im.partF)))),List.length_set,?_⟩
   ·
    rw [hTe,List.all_eq_true]
    exact fun x hx => decide_eq_true (h4 x hx)
   ·
    unfold Im.tF
    rw [hTf]
    exact z
  ·
   refine .inr ⟨rfl,?_⟩
   rw [hTe,List.all_eq_false]
   exact ⟨x,hx,by simpa using h4⟩
theorem Im.Rn.lp {A B1 B2 B3 B4 q : Nat} {w : World} {h : Bl.Sv} {s : Bl.St} {rs : List Pd.T} (r : Im.Rn A B1 B2 B3 B4 w h s rs) (hs : ∀ x ∈ s.ser,Sr.Short x) {bo : Sl} {b : List Ba.T} (hb : Ba.Ls w bo.ao bo.n bo.cap b) (pb : InP (fun c => A ≤ c ∧ c ≠ q) bo.ao bo.n) (hq : q < A ∨ B4 ≤ q) : Bl.Lp (fun c => A ≤ c ∧ c ≠ q) w ⟨h.tab,h.ser,h.post,bo,h.sess,h.next⟩ ⟨s.tab,s.ser,s.post,b,s.sess,s.next⟩ := by
 have inp : ∀ {ao : Option Addr} {n cap : Nat},(∀ c,(Value.slice ao n cap).ownBlock = some c → A ≤ c ∧ c < B4) → InP (fun c => A ≤ c ∧ c ≠ q) ao n := fun k _ c o e => by
  have := k c (by rw [e]; rfl)
  exact ⟨this.1,by omega⟩
 have l3 := r.le3
 have l4 := r.le4
 have l1 := r.le1
 have l2 := r.le2
 obtain ⟨ao1,c1,e1,s1,_⟩ := Sr.own_ls r.ser hs
 obtain ⟨ao2,c2,e2,s2,_⟩ := Pd.own_ls r.post r.short
 unfold Bl.sl at e1 e2
 simp only [Value.slice.injEq] at e1 e2
 refine ⟨r.tab,?_,⟨rs,?_,r.each,fun x hx => ?_⟩,hb,r.sess,r.next,r.fit,r.ptab.mono fun c hc => ⟨hc.1,by omega⟩,inp (cap := h.ser.cap) fun c e => by have := r.gser c e; omega,inp (cap := h.post.cap) fun c e => by have := r.gpost c e; omega,pb,r.psess.mono fun c hc => ⟨hc.1,by omega⟩⟩
 ·
  show Sr.Ls w h.ser.ao h.ser.n h.ser.cap s.ser
  rw [e1.1,e1.2.1,e1.2.2]
  exact s1
 ·
  show Pd.Ls w h.post.ao h.post.n h.post.cap rs
  rw [e2.1,e2.2.1,e2.2.2]
  exact s2
 ·
  obtain ⟨i,hi,rfl⟩ := List.getElem_of_mem hx
  exact inp (cap := rs[i].parts.cap) fun c e => by have := r.gpart i hi c e; omega
theorem Im.Rn.keep {A B1 B2 B3 B4 q : Nat} {w u : World} {h : Bl.Sv} {s : Bl.St} {rs : List Pd.T} (r : Im.Rn A B1 B2 B3 B4 w h s rs) (k : UpdQ (fun b => b = q) w u) (hq : q < A ∨ B4 ≤ q) : Im.Rn A B1 B2 B3 B4 u h s rs := by
 have l1 := r.le1
 have l2 := r.le2
 have l3 := r.le3
 have l4 := r.le4
 have kq : KpP (fun b => A ≤ b ∧ b < B4) w u := k.kpP fun b hb e => by have := hb; omega
 refine ⟨l1,l2,r.le3,r.le4,Nat.le_trans r.le5 k.size,k.rows r.ser fun b e z => ?_,r.serB,k.rows r.post fun b e z => ?_,r.postB,r.short,⟨r.each.len,fun i hi => (r.each.each i hi).kpP (fun hn b o e => ?_) kq⟩,⟨fun i hi hk => k.rows (r.pto.own i hi hk) fun b e z => ?_,r.pto.off,r.pto.apart⟩,r.ptoB,r.tab.kpP (r.ptab.mono fun c hc => ⟨hc.1,hc.2.1⟩) kq,r.sess.kpP (r.psess.mono fun c hc => ⟨hc.1,hc.2.1⟩) kq,r.next,r.fit,r.ptab,r.psess⟩
 ·
  have := r.gser b e
  omega
 ·
  have := r.gpost b e
  omega
 ·
  have := r.gpart i hi b (by show (Value.slice rs[i].parts.ao rs[i].parts.n rs[i].parts.cap).ownBlock = _; rw [e]; rfl)
  show A ≤ b ∧ b < B4
  omega
 ·
  have := r.gpart i hi b e
  omega
theorem Im.Rn.below {A B1 B2 B3 B4 : Nat} {w u : World} {h : Bl.Sv} {s : Bl.St} {rs : List Pd.T} (r : Im.Rn A B1 B2 B3 B4 w h s rs) (k : Below w.heap.size w u) : Im.Rn A B1 B2 B3 B4 u h s rs := by
 exact ⟨r.le1,r.le2,r.le3,r.le4,Nat.le_trans r.le5 k.size,Sr.own_below r.ser k,r.serB,Pd.own_below r.post k,r.postB,r.short,r.each.below k,⟨fun i hi hk => Pt.own_below (r.pto.own i hi hk) k,r.pto.off,r.pto.apart⟩,r.ptoB,r.tab.below k,r.sess.below k,r.next,r.fit,r.ptab,r.psess⟩
theorem Im.fill_no {s : Bl.St} {k : Nat} (hk : k < (Im.credF (Im.numF s.post)).length) (h : Im.totE (Im.credF (Im.numF s.post))[k].tot = false) : Im.fill s = none := by
 unfold Im.fill
 rw [if_neg]
 intro hall
 rw [List.all_eq_true] at hall
 have hk2 : k < s.post.length := by rw [Im.credF_len,Im.numF_len] at hk; exact hk
 have h1 := hall _ (List.getElem_mem hk2)
 rw [Im.cred_get,Im.num_get] at h
 rw [show Im.totE s.post[k].tot = false from h] at h1
 cases h1
theorem Im.fill_all {s : Bl.St} (h : ∀ i (hi : i < (Im.credF (Im.numF s.post)).length),Im.totE (Im.credF (Im.numF s.post))[i].tot = true) : (s.post.all fun p => Im.totE p.tot) = true := by
 rw [List.all_eq_true]
 intro p hp
 obtain ⟨i,hi,rfl⟩ := List.getElem_of_mem hp
 have h1 := h i (by rw [Im.credF_len,Im.numF_len]; exact hi)
 rw [Im.cred_get,Im.num_get] at h1
 exact h1
theorem Im.mix_tF (l : List Bl.Ps) : l.mapIdx Im.tF = l.map fun p => Im.setTot p (Im.totF p.tot) := by
 refine List.ext_getElem (by rw [List.length_mapIdx,List.length_map]) fun i h1 h2 => ?_
 rw [List.getElem_mapIdx,List.getElem_map]
 rfl
theorem Im.updA {A B2 B3 B4 : Nat} {w u v : World} (h : UpdQ (fun b => A ≤ b ∧ b < B4) w u) (k : UpdQ (fun b => B2 ≤ b ∧ b < B3) u v) (hA : A ≤ B2) (hB : B3 ≤ B4) : UpdQ (fun b => A ≤ b ∧ b < B4) w v := h.trans (k.mono fun b hb => by omega)
theorem Im.At.keep {u v : World} {q : Nat} {h : Bl.Sv} {Q : Nat → Prop} (a : Bl.At u q h) (k : UpdQ Q u v) (hq : ¬ Q q) : Bl.At v q h := (k.block q a.lt hq).trans a
set_option maxHeartbeats 8000000 in
theorem img_reckon {A B1 B2 B3 B4 : Nat} {w : World} {h : Bl.Sv} {s : Bl.St} {rs : List Pd.T} (q : Nat) (hA : Bl.At w q h) (hR : Im.Rn A B1 B2 B3 B4 w h s rs) (hS : Im.Rs s) (hq : q < A ∨ B4 ≤ q) :
  Calls Tryz.prog 19 #[.pointer (some ⟨q,0,none⟩)] w fun e w' => ((∃ t h',e = .returned (.bool true) ∧ Im.fill s = some t ∧ Bl.At w' q h' ∧ Bl.Lp (fun b => A ≤ b ∧ b ≠ q) w' h' t) ∨ (e = .returned (.bool false) ∧ Im.fill s = none)) ∧ UpdQ (fun b => b = q ∨ (A ≤ b ∧ b < B4)) w w' := by
 have HS := Lib.hid hS
 have HR := Lib.hid hR
 have l1 := hR.le1
 have l2 := hR.le2
 have l3 := hR.le3
 have l4 := hR.le4
 have hn : h.post.n = rs.length := by
  obtain ⟨a,c,e,l,_⟩ := Pd.own_ls hR.post hR.short
  unfold Bl.sl at e
  simp only [Value.slice.injEq] at e
  exact e.2.1
 have hnS : h.ser.n = s.ser.length := by
  obtain ⟨a,c,e,l,_⟩ := Sr.own_ls hR.ser hS.serS
  unfold Bl.sl at e
  simp only [Value.slice.injEq] at e
  exact e.2.1
 have hn40 : h.post.n ≤ 40 := by
  have h1 := hR.each.len
  have h2 := hS.post
  omega
 have hs8 : h.ser.n ≤ 8 := by
  have h2 := hS.ser
  omega
 have HN := Lib.hid hn
 have HNS := Lib.hid hnS
 have HNum : Hid (∀ u,Im.Rn A B1 B2 B3 B4 u h s rs → Calls Tryz.prog 53 #[.slice h.post.ao h.post.n h.post.cap] u fun e w' => e = .returned (.tuple #[]) ∧ (∃ rs',rs'.length = rs.length ∧ Im.Rn A B1 B2 B3 B4 w' h ⟨s.tab,s.ser,Im.numF s.post,s.book,s.sess,s.next⟩ rs') ∧ UpdQ (fun b => B2 ≤ b ∧ b < B3) u w') := Lib.hid fun u r => by
  refine (img_number rs h.post.ao h.post.n h.post.cap B2 u r.post r.short HN.out (by omega)).mono ?_
  rintro e w' ⟨rfl,o,k⟩
  refine ⟨rfl,⟨_,List.length_mapIdx,r.rows k o List.length_mapIdx ?_ r.each.num ?_ ?_⟩,k.mono fun b hb => r.gpost b hb⟩
  ·
   have := Im.nF_short r.short (by have := HN.out; omega) rs.length
   rw [Im.mix_full (Nat.le_refl _)] at this
   exact this
  ·
   intro i h1 h2
   rw [List.getElem_mapIdx]
   rfl
  ·
   intro i h1 h2
   rw [Im.num_get]
   rfl
 have HCrd : Hid (∀ u (s1 : Bl.St) (rs1 : List Pd.T),rs1.length = rs.length → Im.Rn A B1 B2 B3 B4 u h s1 rs1 → Calls Tryz.prog 54 #[.slice h.post.ao h.post.n h.post.cap] u fun e w' => e = .returned (.tuple #[]) ∧ (∃ rs',rs'.length = rs.length ∧ Im.Rn A B1 B2 B3 B4 w' h ⟨s1.tab,s1.ser,Im.credF s1.post,s1.book,s1.sess,s1.next⟩ rs') ∧ UpdQ (fun b => B2 ≤ b ∧ b < B3) u w') := Lib.hid fun u s1 rs1 hl r => by
  refine (img_credit rs1 h.post.ao h.post.n h.post.cap B2 u r.post r.short (by rw [hl]; exact HN.out) (by omega)).mono ?_
  rintro e w' ⟨rfl,o,k⟩
  refine ⟨rfl,⟨_,List.length_mapIdx.trans hl,r.rows k o List.length_mapIdx ?_ r.each.cred ?_ ?_⟩,k.mono fun b hb => r.gpost b hb⟩
  ·
   have := Im.bF_short r.short rs1.length
   rw [Im.mix_full (Nat.le_refl _)] at this
   exact this
  ·
   intro i h1 h2
   rw [List.getElem_mapIdx]
   rfl
  ·
   intro i h1 h2
   rw [Im.cred_get]
   rfl
 have HAdv : Hid (∀ u (s1 : Bl.St) (rs1 : List Pd.T),rs1.length = rs.length → s1.ser = s.ser → s1.post.map (·.ser) = s.post.map (·.ser) → Im.Rn A B1 B2 B3 B4 u h s1 rs1 → Calls Tryz.prog 55 #[.slice h.ser.ao h.ser.n h.ser.cap,.slice h.post.ao h.post.n h.post.cap] u fun e w' => e = .returned (.tuple #[]) ∧ Im.Rn A B1 B2 B3 B4 w' h ⟨s1.tab,Im.serF s.ser s.post,s1.post,s1.book,s1.sess,s1.next⟩ rs1 ∧ UpdQ (fun b => A ≤ b ∧ b < B4) u w') := Lib.hid fun u s1 rs1 hl hss hps r => by
  have hLs : Pd.Ls u h.post.ao h.post.n h.post.cap rs1 := by
   obtain ⟨a,c,e,l,_⟩ := Pd.own_ls r.post r.short
   unfold Bl.sl at e
   simp only [Value.slice.injEq] at e
   rw [e.1,e.2.1,e.2.2]
   exact l
  refine (img_advance s1.ser rs1 h.ser.ao h.post.ao h.ser.n h.ser.cap h.post.n h.post.cap B1 u r.ser (by rw [hss]; exact HS.out.serS) (by rw [hss]; exact HNS.out) hLs (by omega) (by omega) (fun hn b o e z => ?_)).mono ?_
  ·
   have h1 := r.gser b z
   have h2 := r.gpost b (by unfold Bl.sl; rw [e]; rfl)
   omega
  rintro e w' ⟨rfl,o,k⟩
  refine ⟨rfl,?_,k.mono fun b hb => by have := r.gser b hb; omega⟩
  have hsf : s1.ser.mapIdx (Im.sF rs1) = Im.serF s.ser s.post := by
   rw [hss]
   unfold Im.serF
   refine List.ext_getElem (by rw [List.length_mapIdx,List.length_map]) fun i h1 h2 => ?_
   rw [List.getElem_mapIdx,List.getElem_map]
   unfold Im.sF Im.setNext
   rw [Im.cnt_each (w := u) _ ((r.each.mapS (·.ser) (·.ser) fun _ _ z => z.ser).trans hps)]
  rw [← hsf]
  exact r.sers k o
 have HA0 := Lib.hid hA
 obtain ⟨x0,x1,x2,x3,x4,x5⟩ := hA.cells
 clear hA hR hS hn hnS
 go_enter Tryz.func19,Tryz.ntmps19
 go_wp2_with fail
 refine (HNum.out w HR.out).mono ?_
 rintro e w1 ⟨rfl,⟨rs1,hl1,r1⟩,k1⟩
 have HL1 := Lib.hid hl1
 have HR1 := Lib.hid r1
 have HA1 := Lib.hid (Im.At.keep HA0.out k1 (by omega))
 have HU1 : Hid (UpdQ (fun b => A ≤ b ∧ b < B4) w w1) := Lib.hid (k1.mono fun b hb => by omega)
 clear hl1 r1 k1 HNum x0 x1 x2 x3 x4 x5
 obtain ⟨x0,x1,x2,x3,x4,x5⟩ := HA1.out.cells
 go_wp2_with fail
 refine (HCrd.out w1 _ rs1 HL1.out HR1.out).mono ?_
 rintro e w2 ⟨rfl,⟨rs2,hl2,r2⟩,k2⟩
 have HL2 := Lib.hid hl2
 have HR2 := Lib.hid r2
 have HA2 := Lib.hid (Im.At.keep HA1.out k2 (by omega))
 have HU2 : Hid (UpdQ (fun b => A ≤ b ∧ b < B4) w w2) := Lib.hid (Im.updA HU1.out k2 (by omega) (by omega))
 clear hl2 r2 k2 HCrd x0 x1 x2 x3 x4 x5
 obtain ⟨x0,x1,x2,x3,x4,x5⟩ := HA2.out.cells
 obtain ⟨P2,hP2⟩ : ∃ P,Im.credF (Im.numF s.post) = P := ⟨_,rfl⟩
 have HP2 := Lib.hid hP2
 have HAd : Hid (∀ u,Below w2.heap.size w2 u → Calls Tryz.prog 55 #[.slice h.ser.ao h.ser.n h.ser.cap,.slice h.post.ao h.post.n h.post.cap] u fun e w' => e = .returned (.tuple #[]) ∧ Hid (Im.Rn A B1 B2 B3 B4 w' h ⟨s.tab,Im.serF s.ser s.post,P2,s.book,s.sess,s.next⟩ rs2) ∧ Hid (Bl.At w' q h) ∧ Hid (UpdQ (fun b => A ≤ b ∧ b < B4) w w')) := Lib.hid fun u hu => by
  refine (HAdv.out u ⟨s.tab,s.ser,Im.credF (Im.numF s.post),s.book,s.sess,s.next⟩ rs2 HL2.out rfl ?_ (HR2.out.below hu)).mono ?_
  ·
   show (Im.credF (Im.numF s.post)).map (·.ser) = s.post.map (·.ser)
   refine List.ext_getElem (by rw [List.length_map,List.length_map,Im.credF_len,Im.numF_len]) fun i h1 h2 => ?_
   rw [List.getElem_map,List.getElem_map,Im.cred_get,Im.num_get]
   rfl
  ·
   rintro e w' ⟨rfl,r,k⟩
   refine ⟨rfl,Lib.hid (by rw [← HP2.out]; exact r),Lib.hid (Im.At.keep (HA2.out.below hu) k (by omega)),Lib.hid ((HU2.out.belowT hu).trans k)⟩
 clear HAdv hP2
 go_wp2_with fail
 go_cut [] (fun wx => Hid (Im.Rn A B1 B2 B3 B4 wx h ⟨s.tab,Im.serF s.ser s.post,P2,s.book,s.sess,s.next⟩ rs2) ∧ Hid (Bl.At wx q h) ∧ Hid (UpdQ (fun b => A ≤ b ∧ b < B4) w wx))
 case first =>
  go_region_with (go_at_call 55; refine (HAd.out _ (by first | exact Below.refl _ _ | exact (Below.refl _ _).drew)).mono ?_; rintro e u ⟨rfl,r3,a3,k3⟩)
  all_goals (try go_wp2_with fail)
  all_goals go_meet
  all_goals exact ⟨r3,a3,k3⟩
 case rest =>
  obtain ⟨HR3,HA3,HU3⟩ := hcut
  clear HR2 HA2 HU2 HR1 HA1 HU1 HAd x0 x1 x2 x3 x4 x5
  rename World => w3
  obtain ⟨x0,x1,x2,x3,x4,x5⟩ := HA3.out.cells
  have HLP : Hid (P2.length = h.post.n) := Lib.hid (by rw [← HP2.out,Im.credF_len,Im.numF_len]; have := HN.out; have := HR.out.each.len; omega)
  have HPt : Hid (∀ p ∈ P2,p.tot.parts.length ≤ 12 ∧ ∀ x ∈ p.tot.parts,Pt.Short x ∧ x.cat.size ≤ 64) := Lib.hid fun p hp => by
   rw [← HP2.out] at hp
   obtain ⟨i,hi,rfl⟩ := List.getElem_of_mem hp
   rw [Im.cred_get,Im.num_get]
   rw [Im.credF_len,Im.numF_len] at hi
   exact ⟨show s.post[i].tot.parts.length ≤ 12 from HS.out.parts _ (List.getElem_mem hi),show ∀ x ∈ s.post[i].tot.parts,Pt.Short x ∧ x.cat.size ≤ 64 from HS.out.partS _ (List.getElem_mem hi)⟩
  go_wp2_with fail
  clear x0 x1 x2 x3 x4 x5
  go_loopw [3,29] (fun _ j wr => ∃ (k : Nat) (rk : List Pd.T),k ≤ h.post.n ∧ j = .int .i64 k ∧ Hid (rk.length = rs.length) ∧ Hid (Im.Rn A B1 B2 B3 B4 wr h ⟨s.tab,Im.serF s.ser s.post,Im.mix Im.tF k P2,s.book,s.sess,s.next⟩ rk) ∧ Hid (Bl.At wr q h) ∧ Hid (UpdQ (fun b => A ≤ b ∧ b < B4) w wr) ∧ Hid (∀ i (hi : i < P2.length),i < k → Im.totE P2[i].tot = true)) (fun _ j _ => h.post.n - (intOf j).toNat)
  case atStart => exact ⟨0,rs2,by omega,rfl,HL2,Lib.hid (by rw [Im.mix_zero]; exact HR3.out),HA3,HU3,Lib.hid fun i hi hk => absurd hk (Nat.not_lt_zero _)⟩
  case round =>
   clear HR3 HA3 HU3 HL2
   rename World => wz
   obtain ⟨k,rk,hk,rfl,HLk,HRk,HAk,HUk,HEk⟩ := hrel
   obtain ⟨x0,x1,x2,x3,x4,x5⟩ := HAk.out.cells
   by_cases hlt : k < h.post.n
   ·
    have hkr : k < rk.length := by have := HLk.out; have := HN.out; omega
    have hkP : k < P2.length := by have := HLP.out; omega
    have hkm : k < (Im.mix Im.tF k P2).length := by rw [Im.mix_len]; exact hkP
    obtain ⟨g,hg⟩ : ∃ g,h.post.ao = some ⟨g,0,none⟩ := Im.own_g (by have h1 := HRk.out.post; unfold Pd.Own Bl.sl at h1; rw [show rk.length = h.post.n from by have := HLk.out; have := HN.out; omega] at h1; exact h1) (by omega)
    have HGo := Lib.hid hg
    have HMa := Lib.hid (Im.mix_at (f := Im.tF) hkP)
    have HMs := Lib.hid (Im.mix_set (f := Im.tF) hkP)
    have HTo : Hid (Calls Tryz.prog 56 #[.pointer (some ⟨g,k * 12 + 5,none⟩)] wz fun e w' => ((e = .returned (.bool true) ∧ Im.totE P2[k].tot = true ∧ ∃ rs',rs'.length = rs.length ∧ Im.Rn A B1 B2 B3 B4 w' h ⟨s.tab,Im.serF s.ser s.post,Im.mix Im.tF (k + 1) P2,s.book,s.sess,s.next⟩ rs') ∨ (e = .returned (.bool false) ∧ Im.totE P2[k].tot = false)) ∧ UpdQ (fun b => B2 ≤ b ∧ b < B3) wz w') := Lib.hid (by
     have hmem := HPt.out _ (List.getElem_mem hkP)
     refine (img_total_any HRk.out k g hkr hkm HGo.out (by show (Im.mix Im.tF k P2)[k].tot.parts.length ≤ 1000; rw [HMa.out]; have := hmem.1; omega) (by show ∀ x ∈ (Im.mix Im.tF k P2)[k].tot.parts,Pt.Short x; rw [HMa.out]; exact fun x hx => (hmem.2 x hx).1)).mono ?_
     rintro e w' ⟨h1,h2⟩
     refine ⟨?_,h2⟩
     rcases h1 with ⟨rfl,h3,rs',h4,h5⟩ | ⟨rfl,h3⟩
     ·
      refine .inl ⟨rfl,?_,rs',h4.trans HLk.out,?_⟩
      ·
       have h6 : Im.totE (Im.mix Im.tF k P2)[k].tot = true := h3
       rw [HMa.out] at h6
       exact h6
      ·
       rw [← HMs.out]
       have h6 : Im.Rn A B1 B2 B3 B4 w' h ⟨s.tab,Im.serF s.ser s.post,(Im.mix Im.tF k P2).set k (Im.tF k (Im.mix Im.tF k P2)[k]),s.book,s.sess,s.next⟩ rs' := h5
       rw [HMa.out] at h6
       exact h6
     ·
      refine .inr ⟨rfl,?_⟩
      have h6 : Im.totE (Im.mix Im.tF k P2)[k].tot = false := h3
      rw [HMa.out] at h6
      exact h6)
    have hcp : h.post.n ≤ h.post.cap ∧ h.post.cap ≤ 9223372036854775807 := by
     obtain ⟨a,c,e,l,_⟩ := Pd.own_ls HRk.out.post HRk.out.short
     unfold Bl.sl at e
     simp only [Value.slice.injEq] at e
     rw [e.2.1,e.2.2]
     exact ⟨l.fits,l.reach⟩
    obtain ⟨hc1,hc2⟩ := hcp
    rw [hg] at x2
    clear hg
    go_wp2_with fail
    refine HTo.out.mono ?_
    rintro e w4 ⟨h4,k4⟩
    have HA4 := Lib.hid (Im.At.keep HAk.out k4 (by omega))
    have HU4 : Hid (UpdQ (fun b => A ≤ b ∧ b < B4) w w4) := Lib.hid (Im.updA HUk.out k4 (by omega) (by omega))
    clear k4 HTo x0 x1 x2 x3 x4 x5
    rcases h4 with ⟨rfl,hT,rs4,hl4,r4⟩ | ⟨rfl,hT⟩
    ·
     have HE4 : Hid (∀ i (hi : i < P2.length),i < k + 1 → Im.totE P2[i].tot = true) := Lib.hid fun i hi hik => by
      rcases Nat.lt_or_ge i k with z | z
      · exact HEk.out i hi z
      ·
       obtain rfl : i = k := by omega
       exact hT
     have HL4 := Lib.hid hl4
     have HR4 := Lib.hid r4
     clear hT hl4 r4
     go_wp2_with fail
     go_roundw
     case rel => exact ⟨k + 1,rs4,by omega,by go_num,HL4,HR4,HA4,HU4,HE4⟩
     case measure => simp [intOf]; omega
    ·
     have HNo : Hid (Im.fill s = none) := Lib.hid (Im.fill_no (k := k) (by rw [HP2.out]; exact hkP) (by simp only [HP2.out]; exact hT))
     clear hT
     go_wp2_with fail
     go_ret
     exact ⟨.inr ⟨rfl,HNo.out⟩,HU4.out.mono fun b hb => .inr hb⟩
   ·
    obtain rfl : k = h.post.n := by omega
    have HFull : Hid (Im.mix Im.tF h.post.n P2 = Im.postF s.post) := Lib.hid (by
     rw [Im.mix_full (by have := HLP.out; omega),Im.mix_tF,← HP2.out]
     rfl)
    rw [HFull.out] at HRk
    have HAll : Hid ((s.post.all fun p => Im.totE p.tot) = true) := Lib.hid (Im.fill_all fun i hi => by
     have h1 := HEk.out i (by rw [← HP2.out]; exact hi) (by have := HLP.out; rw [← this,← HP2.out]; exact hi)
     simp only [HP2.out]
     exact h1)
    have HBk : Hid (Calls Tryz.prog 57 #[.slice h.post.ao h.post.n h.post.cap] wz fun e w' => ((∃ v b,e = .returned (.tuple #[v,.bool true]) ∧ Bl.enterAll (Im.postF s.post) [] = some b ∧ Ba.Own w' wz.heap.size v b ∧ ∀ r ∈ b,Ba.Short r) ∨ (e = .returned (.tuple #[.slice none 0 0,.bool false]) ∧ Bl.enterAll (Im.postF s.post) [] = none)) ∧ Below wz.heap.size wz w') := Lib.hid (by
     have hLs : Pd.Ls wz h.post.ao h.post.n h.post.cap rk := by
      obtain ⟨a,c,e,l,_⟩ := Pd.own_ls HRk.out.post HRk.out.short
      unfold Bl.sl at e
      simp only [Value.slice.injEq] at e
      rw [e.1,e.2.1,e.2.2]
      exact l
     refine img_book (Im.postF s.post) rk _ _ _ wz hLs HRk.out.each hn40 fun p hp => ?_
     obtain ⟨i,hi,rfl⟩ := List.getElem_of_mem hp
     rw [Im.post_get]
     have hi2 : i < P2.length := by rw [Im.postF_len] at hi; rw [← HP2.out,Im.credF_len,Im.numF_len]; exact hi
     have hm := HPt.out _ (List.getElem_mem hi2)
     simp only [HP2.out]
     refine ⟨?_,fun x hx => ?_⟩
     ·
      show (P2[i].tot.parts.map Im.partF).length ≤ 12
      rw [List.length_map]
      exact hm.1
     ·
      have hx' : x ∈ P2[i].tot.parts.map Im.partF := hx
      obtain ⟨y,hy,rfl⟩ := List.mem_map.1 hx'
      have := (hm.2 y hy).2
      show y.cat.size ≤ _
      omega)
    go_wp2_with fail
    refine HBk.out.mono ?_
    rintro e w5 ⟨h5,b5⟩
    have HQz := Lib.hid HAk.out.lt
    have HA5 := Lib.hid (HAk.out.below b5)
    have HR5 := Lib.hid (HRk.out.below b5)
    have HU5 : Hid (UpdQ (fun b => A ≤ b ∧ b < B4) w w5) := Lib.hid (HUk.out.belowT b5)
    have HZ5 : Hid (A ≤ wz.heap.size) := Lib.hid (by have := HRk.out.le5; omega)
    clear b5 HBk x0 x1 x2 x3 x4 x5
    obtain ⟨x0,x1,x2,x3,x4,x5⟩ := HA5.out.cells
    have z3 := HA5.out.frozen 3
    have hqw := HA5.out.lt
    rcases h5 with ⟨v,b,rfl,hb,ob,sb⟩ | ⟨rfl,hb⟩
    ·
     obtain ⟨vo,vc,rfl,l5,g5⟩ := Ba.own_ls ob sb
     have HOb := Lib.hid l5
     have HGb := Lib.hid g5
     have HFi : Hid (Im.fill s = some ⟨s.tab,Im.serF s.ser s.post,Im.postF s.post,b,s.sess,s.next⟩) := Lib.hid (by
      unfold Im.fill
      rw [if_pos HAll.out,hb])
     obtain ⟨m,hm⟩ : ∃ m,b.length = m := ⟨_,rfl⟩
     rw [hm] at HOb
     rw [hm]
     clear ob sb l5 g5 hb hm
     go_wp2_with fail
     go_ret
     have hset : UpdQ (fun b => b = q) w5 (w5.setCell ⟨q,3,none⟩ (.slice vo m vc)) := UpdQ.set (Q := fun b => b = q) w5 rfl _ _
     have hR6 := HR5.out.keep hset hq
     have hB6 : Ba.Ls (w5.setCell ⟨q,3,none⟩ (.slice vo m vc)) vo m vc b := HOb.out.kpP (P := fun c => c ≠ q) (fun hn c o e => by
      obtain ⟨g,h1,h2⟩ := HGb.out _ e
      cases h1
      have := HQz.out
      show c ≠ q
      omega) (hset.kpP fun c hc z => hc z)
     refine ⟨.inl ⟨_,⟨h.tab,h.ser,h.post,⟨vo,m,vc⟩,h.sess,h.next⟩,rfl,HFi.out,(Bl.set_heap HA5.out 3 _).trans rfl,hR6.lp (fun x hx => ?_) hB6 (fun hn c o e => ?_) hq⟩,(HU5.out.mono fun b hb => .inr hb).trans (hset.mono fun b hb => .inl hb)⟩
     ·
      have h1 : x ∈ Im.serF s.ser s.post := hx
      unfold Im.serF at h1
      obtain ⟨y,hy,rfl⟩ := List.mem_map.1 h1
      have h2 := HS.out.serS y hy
      have h3 := Bl.cnt_len y.name s.post
      have h4 := HS.out.post
      exact ⟨h2.1,⟨by show -9223372036854775808 ≤ (Bl.cnt y.name s.post : Int) + 1; omega,by show (Bl.cnt y.name s.post : Int) + 1 ≤ _; omega⟩,h2.2.2⟩
     ·
      obtain ⟨g,h1,h2⟩ := HGb.out _ e
      cases h1
      have := HZ5.out
      have := HQz.out
      show A ≤ c ∧ c ≠ q
      omega
    ·
     have HNo : Hid (Im.fill s = none) := Lib.hid (by
      unfold Im.fill
      rw [if_pos HAll.out,hb])
     clear hb
     go_wp2_with fail
     go_ret
     exact ⟨.inr ⟨rfl,HNo.out⟩,(HU5.out.mono fun b hb => .inr hb).trans (UpdQ.set w5 (.inl rfl) _ _)⟩
end Go.Proofs.YtillcleccjgocaaGreat
namespace Go.Proofs.YtillcleccjgocaaGreat.By
open Go.RowKit
open Mem
def Own (w : World) (B : Nat) (v : Value) (xs : List UInt8) : Prop := w.ownsRow B 5 1 v xs.length (xs.map bv)
theorem own_nil (w : World) (B : Nat) : Own w B (.slice none 0 0) [] := ⟨rfl,.inl ⟨rfl,rfl⟩⟩
theorem own_empty {X : World} {B g : Nat} (hB : B ≤ g) (hg : X.heap[g]? = some (.cells #[] 5 (0,0))) : Own X B (.slice (some ⟨g,0,none⟩) 0 0) [] :=
 ⟨rfl,.inr ⟨g,0,#[],rfl,hB,hg,Nat.le_refl _,Nat.zero_le _,rfl,rfl⟩⟩
theorem own_ls {w : World} {B : Nat} {v : Value} {xs : List UInt8} (h : Own w B v xs) : ∃ ao cap,v = .slice ao xs.length cap ∧ Ls w ao xs.length cap xs ∧ (∀ ad,ao = some ad → ∃ g,ad = ⟨g,0,none⟩ ∧ B ≤ g) := by
 rcases h.2 with ⟨h',h2⟩ | ⟨g,cap,cur,h',hb,hg,hnc,hcm,hcs,htake⟩
 ·
  have e : xs = [] := List.length_eq_zero_iff.1 h2
  subst e
  exact ⟨none,0,h',ls_nil w,fun ad k => by cases k⟩
 ·
  refine ⟨some ⟨g,0,none⟩,cap,h',⟨rfl,hnc,hcm,fun k => (by cases k),.inr ⟨g,0,rfl,fun k hk => ?_⟩⟩,fun ad k => by cases k; exact ⟨g,rfl,hb⟩⟩
  rw [Nat.zero_add,cell_of_row w g _ _ _ _ hg]
  rw [Nat.mul_one] at htake
  have e : (cur.toList.take xs.length)[k]? = (xs.map bv)[k]? := by rw [htake]
  rw [List.getElem?_take_of_lt hk,List.getElem?_map,List.getElem?_eq_getElem hk] at e
  simpa using e
theorem own_ge {w : World} {B : Nat} {v : Value} {xs : List UInt8} (h : Own w B v xs) : ∀ k,v.ownBlock = some k → B ≤ k := by
 intro k hk
 rcases h.2 with ⟨h',_⟩ | ⟨g,cap,cur,h',hb,_⟩
 ·
  rw [h'] at hk
  cases hk
 ·
  rw [h'] at hk
  simp only [Value.ownBlock,Option.some.injEq] at hk
  omega
theorem own_alloc {w : World} {B : Nat} {v : Value} {xs : List UInt8} (h : Own w B v xs) (o : Obj) : Own (w.alloc o) B v xs := World.ownsRow.alloc h o
theorem own_below {w u : World} {B : Nat} {v : Value} {xs : List UInt8} (h : Own w B v xs) (k : Below w.heap.size w u) : Own u B v xs := by
 obtain ⟨h1,h2⟩ := h
 refine ⟨h1,?_⟩
 rcases h2 with h2 | ⟨g,cap,cur,h',hb,hg,h3⟩
 · exact .inl h2
 ·
  refine .inr ⟨g,cap,cur,h',hb,?_,h3⟩
  have hl : g < w.heap.size := by
   obtain ⟨hl,_⟩ := Array.getElem?_eq_some_iff.1 hg
   exact hl
  rw [k.block g hl]
  exact hg
theorem wpList_append {ops : Array Oper} {rest : List Oper} {o : Oper} {a : Act} {Q : Exit → Act → World → Prop} (w : World) (hgd : o.guard = none) (s x : Operand)
  (ho : o.op = .call { callee := .builtin .append,args := #[s,x],argTypes := #[22,22] })
  (B : Nat) (v : Value) (xs : List UInt8) (hs : a.eval s = v) (hown : Own w B v xs)
  (ao : Option Addr) (n cap : Nat) (zs : List UInt8) (hx : a.eval x = .slice ao n cap) (hn : n = zs.length) (hnil : ao = none → cap = 0) (hsrc : Seg w ao zs) (hl : xs.length + n ≤ 140737488355328) (hb : B ≤ w.heap.size)
  (h : ∀ v' w1,Own w1 B v' (xs ++ zs) → w.grownBy w1 v.ownBlock → (v'.ownBlock = v.ownBlock ∨ v'.ownBlock = some w.heap.size) → wpList Tryz.prog ops Q rest (a.put o.dst v') w1) : wpList Tryz.prog ops Q (o :: rest) a w := by
 refine wpList_plain hgd fun K hK => ?_
 obtain ⟨i0,hi,hz0,hz1,hz2⟩ := info_parts info
 have hmx : maxLen = 9223372036854775807 := rfl
 cases ao with
 | none =>
  obtain rfl : cap = 0 := hnil rfl
  rcases hsrc with e | ⟨b,off,e,_⟩
  ·
   obtain rfl : n = 0 := by rw [hn,e]; rfl
   have hrun := run_append_owned_none (P := Tryz.prog) (w := w) B 22 o.type 5 i0 1 Tryz.underlying22 hi v _ _ hown
   unfold Oper.wp
   simp [execOp,ho,resolve,invoke,builtin,hs,hx,hrun,Result.andThen]
   exact hK _ _ (h v w (by rw [e,List.append_nil]; exact hown) ⟨rfl,rfl,rfl,Nat.le_refl _,fun _ _ _ => rfl⟩ (.inl rfl))
  · cases e
 | some ad =>
  obtain ⟨v',w',hr,h2,h3,_,h5⟩ := run_append_own_at (P := Tryz.prog) w B 22 o.type 5 i0 (.int .u8 0) 1 1 Tryz.underlying22 hi hz0 hz1 hz2 rfl (by omega) v xs.length (xs.map bv) hown ad n cap (zs.map bv) (by rw [List.length_map,hn,Nat.mul_one]) (by
   rcases hsrc with e | ⟨b,off,e,hc⟩
   ·
    rw [e]
    intro j u hu
    simp at hu
   ·
    cases e
    exact fun j u hu => news_of hc j u hu) (one_cell zs) (by omega) (by omega) hb
  unfold Oper.wp execOp
  simp only [ho,resolve,invoke,builtin,Sem.run_bind,Sem.run_pure,Result.andThen_ok,List.map_toArray,List.map_cons,List.map_nil,hs,hx,hr]
  refine hK _ _ (h v' w' ?_ h3 h5)
  unfold Own
  rw [List.map_append,List.length_append,← hn]
  exact h2
theorem seg_one {X : World} {g : Nat} {x : UInt8} {v : Value} (h : X.heap[g]? = some (.cells #[v] 5 (0,0))) (e : bv x = v) : Seg X (some ⟨g,0,none⟩) [x] := by
 refine .inr ⟨g,0,rfl,fun k hk => ?_⟩
 obtain rfl : k = 0 := by simpa using hk
 rw [cell_of_row X g _ _ _ _ h]
 rw [List.getElem_cons_zero,e]
 rfl
end Go.Proofs.YtillcleccjgocaaGreat.By
namespace Go.Proofs.YtillcleccjgocaaGreat
open Go.RowKit
open Mem Pk Cm
open Go.Sort (grow)
structure Iw (w0 w : World) (bs : List UInt8) (ao : Option Addr) (n cap : Nat) : Prop where
 bel : Below w0.heap.size w0 w
 box : w.heap[w0.heap.size]? = some (.cells #[.slice ao n cap] 51 (0,0))
 own : By.Own w (w0.heap.size + 1) (.slice ao n cap) bs
def IwE (w0 w : World) (bs : List UInt8) : Prop := ∃ ao n cap,Iw w0 w bs ao n cap
section
variable {w0 w v : World} {bs : List UInt8} {ao : Option Addr} {n cap : Nat}
theorem Iw.lt (h : Iw w0 w bs ao n cap) : w0.heap.size < w.heap.size := (Array.getElem?_eq_some_iff.1 h.box).1
theorem Iw.below (h : Iw w0 w bs ao n cap) (k : Below w.heap.size w v) : Iw w0 v bs ao n cap := ⟨bchain h.bel k,(k.block _ h.lt).trans h.box,By.own_below h.own k⟩
theorem Iw.cell (h : Iw w0 w bs ao n cap) : w.cell? ⟨w0.heap.size,0,none⟩ = some (.slice ao n cap) := by
 rw [cell_of_row w _ 0 _ _ _ h.box]
 rfl
theorem Iw.frozen (h : Iw w0 w bs ao n cap) (o : Nat) : w.frozen? ⟨w0.heap.size,o,none⟩ = false := frozen_of_row w _ o _ _ h.box
theorem Iw.put (h : Iw w0 w bs ao n cap) {bs' : List UInt8} {u : World} {ao' : Option Addr} {n' cap' : Nat} (o : By.Own u (w0.heap.size + 1) (.slice ao' n' cap') bs') (gr : w.grownBy u (Value.slice ao n cap).ownBlock) : Iw w0 (u.setCell ⟨w0.heap.size,0,none⟩ (.slice ao' n' cap')) bs' ao' n' cap' := by
 have hge := By.own_ge h.own
 have hb : Below w0.heap.size w0 u := h.bel.grown gr h.bel.size (fun k e => by have := hge k e; omega)
 have hx : u.heap[w0.heap.size]? = some (.cells #[.slice ao n cap] 51 (0,0)) := (gr.block _ h.lt (fun e => by have := hge _ e.symm; omega)).trans h.box
 refine ⟨bset hb (Nat.le_refl _) _ _,(heap_setCell_same u _ 0 _ _ _ hx).trans rfl,?_⟩
 obtain ⟨h1,h2⟩ := o
 refine ⟨h1,?_⟩
 rcases h2 with h2 | ⟨g,c,cur,h',hg,hq,h3⟩
 · exact .inl h2
 · exact .inr ⟨g,c,cur,h',hg,by rw [heap_setCell_other u ⟨w0.heap.size,0,none⟩ g _ (by show g ≠ w0.heap.size; omega)]; exact hq,h3⟩
end
def Ap (w0 w : World) (b : Nat) : Prop := b < w.heap.size ∧ b ≠ w0.heap.size ∧ ∀ ao n cap,w.heap[w0.heap.size]? = some (.cells #[.slice ao n cap] 51 (0,0)) → (Value.slice ao n cap).ownBlock ≠ some b
def IwF (w0 w w' : World) : Prop := ∀ b,Ap w0 w b → Ap w0 w' b ∧ w'.heap[b]? = w.heap[b]?
theorem IwF.trans {w0 u v w : World} (h : IwF w0 u v) (k : IwF w0 v w) : IwF w0 u w := fun b hb => ⟨(k b (h b hb).1).1,(k b (h b hb).1).2.trans (h b hb).2⟩
theorem IwF.of {w0 w v : World} {bs : List UInt8} {ao : Option Addr} {n cap : Nat} (k : Below w.heap.size w v) (h : Iw w0 w bs ao n cap) : IwF w0 w v := fun b hb => by
 have e := k.block b hb.1
 refine ⟨⟨Nat.lt_of_lt_of_le hb.1 k.size,hb.2.1,fun ao n cap q => hb.2.2 ao n cap ?_⟩,e⟩
 rw [← q]
 exact (k.block _ h.lt).symm
theorem Iw.frame {w0 w u : World} {bs bs' : List UInt8} {ao : Option Addr} {n cap : Nat} {ao' : Option Addr} {n' cap' : Nat} (h : Iw w0 w bs ao n cap) (gr : w.grownBy u (Value.slice ao n cap).ownBlock) (hat : (Value.slice ao' n' cap').ownBlock = (Value.slice ao n cap).ownBlock ∨ (Value.slice ao' n' cap').ownBlock = some w.heap.size) (hN : Iw w0 (u.setCell ⟨w0.heap.size,0,none⟩ (.slice ao' n' cap')) bs' ao' n' cap') : IwF w0 w (u.setCell ⟨w0.heap.size,0,none⟩ (.slice ao' n' cap')) := fun b hb => by
 have hne := hb.2.2 ao n cap h.box
 have e1 : u.heap[b]? = w.heap[b]? := gr.block b hb.1 (fun e => hne e.symm)
 have e2 : (u.setCell ⟨w0.heap.size,0,none⟩ (.slice ao' n' cap')).heap[b]? = u.heap[b]? := heap_setCell_other u ⟨w0.heap.size,0,none⟩ b _ hb.2.1
 refine ⟨⟨by rw [show (u.setCell ⟨w0.heap.size,0,none⟩ (.slice ao' n' cap')).heap.size = u.heap.size by simp]; exact Nat.lt_of_lt_of_le hb.1 gr.size,hb.2.1,fun a m c q => ?_⟩,e2.trans e1⟩
 rw [hN.box] at q
 cases q
 rcases hat with z | z
 ·
  rw [z]
  exact hne
 ·
  rw [z]
  intro e
  cases e
  exact Nat.lt_irrefl _ hb.1
theorem Iw.fresh {w0 w : World} {bs : List UInt8} {ao : Option Addr} {n cap : Nat} (h : Iw w0 w bs ao n cap) (o : Obj) : Ap w0 (w.alloc o) w.heap.size := by
 refine ⟨by simp,by have := h.lt; omega,fun a m c q e => ?_⟩
 have e1 : (w.alloc o).heap[w0.heap.size]? = w.heap[w0.heap.size]? := ((Below.refl _ _).alloc (Nat.le_refl _) o).block _ h.lt
 rw [e1,h.box] at q
 cases q
 exact Nat.lt_irrefl _ (World.ownsRow.lt h.own _ e).2
theorem By.own_slice {w : World} {B : Nat} {v : Value} {M : List UInt8} (h : By.Own w B v M) : ∃ ao n cap,v = .slice ao n cap := by
 rcases h.2 with ⟨h',_⟩ | ⟨g',cap',cur,h',_⟩
 · exact ⟨_,_,_,h'⟩
 · exact ⟨_,_,_,h'⟩
theorem By.wp_append {o : Oper} {a : Act} {K : Act → World → Prop} {Q : Exit → Act → World → Prop} (w : World) (s x : Operand)
  (ho : o.op = .call { callee := .builtin .append,args := #[s,x],argTypes := #[22,22] })
  (B : Nat) (v : Value) (xs : List UInt8) (hs : a.eval s = v) (hown : By.Own w B v xs)
  (ad : Addr) (n cap : Nat) (zs : List UInt8) (hx : a.eval x = .slice (some ad) n cap) (hn : n = zs.length) (hsrc : By.Seg w (some ad) zs) (hl : xs.length + n ≤ 140737488355328) (hb : B ≤ w.heap.size)
  (h : ∀ v' w1,By.Own w1 B v' (xs ++ zs) → w.grownBy w1 v.ownBlock → (v'.ownBlock = v.ownBlock ∨ v'.ownBlock = some w.heap.size) → K (a.put o.dst v') w1) : o.wp Tryz.prog a w K Q := by
 obtain ⟨i0,hi,hz0,hz1,hz2⟩ := info_parts By.info
 have hmx : maxLen = 9223372036854775807 := rfl
 obtain ⟨v',w',hr,h2,h3,_,h5⟩ := run_append_own_at (P := Tryz.prog) w B 22 o.type 5 i0 (.int .u8 0) 1 1 Tryz.underlying22 hi hz0 hz1 hz2 rfl (by omega) v xs.length (xs.map By.bv) hown ad n cap (zs.map By.bv) (by rw [List.length_map,hn,Nat.mul_one]) (by
  rcases hsrc with e | ⟨b,off,e,hc⟩
  ·
   rw [e]
   intro j u hu
   simp at hu
  ·
   cases e
   exact fun j u hu => By.news_of hc j u hu) (By.one_cell zs) (by omega) (by omega) hb
 unfold Oper.wp execOp
 simp only [ho,resolve,invoke,builtin,Sem.run_bind,Sem.run_pure,Result.andThen_ok,List.map_toArray,List.map_cons,List.map_nil,hs,hx,hr]
 refine h v' w' ?_ h3 h5
 unfold By.Own
 rw [List.map_append,List.length_append,← hn]
 exact h2
theorem step_bytes {ops : Array Oper} {o : Oper} {a : Act} {w : World} {K : Act → World → Prop} {Q : Exit → Act → World → Prop} {E : Prop} {x y : Tmp} {p : Nat} {v0 : Value} {ao : Option Addr} {n cap : Nat} (hgd : o.guard = none) (ho : o.op = .store 22 (.tmp x) (.tmp y)) (hd : o.dst = none) (hx : a.tmps.toList[x]? = some (.pointer (some ⟨p,0,none⟩))) (hy : a.tmps.toList[y]? = some (.slice ao n cap)) (hc : w.cell? ⟨p,0,none⟩ = some v0) (hf : w.frozen? ⟨p,0,none⟩ = false)
  (k : K a (w.setCell ⟨p,0,none⟩ (.slice ao n cap))) : if Region.wanted o (yielded ops a.tmps) = true then Oper.wp Tryz.prog o a w K Q else E := by
 have hw : Region.wanted o (yielded ops a.tmps) = true := by simp [Region.wanted,hgd]
 rw [if_pos hw]
 unfold Oper.wp
 simp only [execOp,ho,Ca.evT hx,Ca.evT hy]
 simp [go_sem,hc,hf,hd]
 exact k
set_option maxHeartbeats 1000000 in
theorem Iw.wp_put {id : Nat} {o0 o1 o2 o3 o4 o5 o6 o7 o8 o9 o10 : Oper} {a : Act} {w : World} {Q : Exit → Act → World → Prop} (p : Nat) (x : Value) (w0 : World) (bs zs : List UInt8) (ao : Option Addr) (n cap : Nat) {f : FuncId} {args : Array Value} {s7 x7 x10 y10 : Tmp}
  (hp : p = w0.heap.size) (hW : Iw w0 w bs ao n cap) (c : Region.noSelect #[o0,o1,o2,o3,o4,o5,o6,o7,o8,o9,o10] = true) (c0 : Bl.tk #[o0,o1,o2,o3,o4,o5,o6,o7,o8,o9,o10] [false,false,false,false,false,false,false,false,false,false,false] 0 = true) (d0 : (waitsG .any #[o0,o1,o2,o3,o4,o5,o6,o7,o8,o9,o10] 10 0 [10] && openG [false,false,false,false,false,false,false,false,false,false,false].toArray [10]) = true) (c1 : Bl.tk #[o0,o1,o2,o3,o4,o5,o6,o7,o8,o9,o10] [true,false,false,false,false,false,false,false,false,false,false] 1 = true) (d1 : (waitsG .any #[o0,o1,o2,o3,o4,o5,o6,o7,o8,o9,o10] 10 1 [10] && openG [true,false,false,false,false,false,false,false,false,false,false].toArray [10]) = true) (c2 : Bl.tk #[o0,o1,o2,o3,o4,o5,o6,o7,o8,o9,o10] [true,true,false,false,false,false,false,false,false,false,false] 2 = true) (d2 : (waitsG .any #[o0,o1,o2,o3,o4,o5,o6,o7,o8,o9,o10] 10 2 [10] && openG [true,true,false,false,false,false,false,false,false,false,false].toArray [10]) = true) (c3 : Bl.tk #[o0,o1,o2,o3,o4,o5,o6,o7,o8,o9,o10] [true,true,true,false,false,false,false,false,false,false,false] 3 = true) (d3 : (waitsG .any #[o0,o1,o2,o3,o4,o5,o6,o7,o8,o9,o10] 10 3 [10] && openG [true,true,true,false,false,false,false,false,false,false,false].toArray [10]) = true) (c4 : Bl.tk #[o0,o1,o2,o3,o4,o5,o6,o7,o8,o9,o10] [true,true,true,true,false,false,false,false,false,false,false] 4 = true) (d4 : (waitsG .any #[o0,o1,o2,o3,o4,o5,o6,o7,o8,o9,o10] 10 4 [10] && openG [true,true,true,true,false,false,false,false,false,false,false].toArray [10]) = true) (c5 : Bl.tk #[o0,o1,o2,o3,o4,o5,o6,o7,o8,o9,o10] [true,true,true,true,true,false,false,false,false,false,false] 5 = true) (d5 : (waitsG .any #[o0,o1,o2,o3,o4,o5,o6,o7,o8,o9,o10] 10 5 [10] && openG [true,true,true,true,true,false,false,false,false,false,false].toArray [10]) = true) (r6 : Region.ready .any #[o0,o1,o2,o3,o4,o5,o6,o7,o8,o9,o10] [true,true,true,true,true,true,false,false,false,false,false].toArray = [6]) (r7 : Region.ready .any #[o0,o1,o2,o3,o4,o5,o6,o7,o8,o9,o10] [true,true,true,true,true,true,true,false,false,false,false].toArray = [7]) (c8 : Bl.tk #[o0,o1,o2,o3,o4,o5,o6,o7,o8,o9,o10] [true,true,true,true,true,true,true,true,false,false,false] 8 = true) (d8 : (waitsG .any #[o0,o1,o2,o3,o4,o5,o6,o7,o8,o9,o10] 10 8 [10,9] && openG [true,true,true,true,true,true,true,true,false,false,false].toArray [10,9]) = true) (c9 : Bl.tk #[o0,o1,o2,o3,o4,o5,o6,o7,o8,o9,o10] [true,true,true,true,true,true,true,true,true,false,false] 9 = true) (d9 : (waitsG .any #[o0,o1,o2,o3,o4,o5,o6,o7,o8,o9,o10] 10 9 [10] && openG [true,true,true,true,true,true,true,true,true,false,false].toArray [10]) = true) (r10 : Region.ready .any #[o0,o1,o2,o3,o4,o5,o6,o7,o8,o9,o10] [true,true,true,true,true,true,true,true,true,true,false].toArray = [10]) (rE : Region.ready .any #[o0,o1,o2,o3,o4,o5,o6,o7,o8,o9,o10] [true,true,true,true,true,true,true,true,true,true,true].toArray = [])
  (y0 : YieldsIf Tryz.prog #[o0,o1,o2,o3,o4,o5,o6,o7,o8,o9,o10] (fun u => u.cell? ⟨p,0,none⟩ = some (.slice ao n cap)) o0 (.pointer (some ⟨p,0,none⟩)) a) (y1 : YieldsIf Tryz.prog #[o0,o1,o2,o3,o4,o5,o6,o7,o8,o9,o10] (fun u => u.cell? ⟨p,0,none⟩ = some (.slice ao n cap)) o1 (.pointer (some ⟨p,0,none⟩)) (a.put o0.dst (.pointer (some ⟨p,0,none⟩)))) (y2 : YieldsIf Tryz.prog #[o0,o1,o2,o3,o4,o5,o6,o7,o8,o9,o10] (fun u => u.cell? ⟨p,0,none⟩ = some (.slice ao n cap)) o2 (.pointer (some ⟨p,0,none⟩)) ((a.put o0.dst (.pointer (some ⟨p,0,none⟩))).put o1.dst (.pointer (some ⟨p,0,none⟩)))) (y3 : YieldsIf Tryz.prog #[o0,o1,o2,o3,o4,o5,o6,o7,o8,o9,o10] (fun u => u.cell? ⟨p,0,none⟩ = some (.slice ao n cap)) o3 (.pointer (some ⟨p,0,none⟩)) (((a.put o0.dst (.pointer (some ⟨p,0,none⟩))).put o1.dst (.pointer (some ⟨p,0,none⟩))).put o2.dst (.pointer (some ⟨p,0,none⟩)))) (y4 : YieldsIf Tryz.prog #[o0,o1,o2,o3,o4,o5,o6,o7,o8,o9,o10] (fun u => u.cell? ⟨p,0,none⟩ = some (.slice ao n cap)) o4 (.slice ao n cap) ((((a.put o0.dst (.pointer (some ⟨p,0,none⟩))).put o1.dst (.pointer (some ⟨p,0,none⟩))).put o2.dst (.pointer (some ⟨p,0,none⟩))).put o3.dst (.pointer (some ⟨p,0,none⟩)))) (y5 : YieldsIf Tryz.prog #[o0,o1,o2,o3,o4,o5,o6,o7,o8,o9,o10] (fun u => u.cell? ⟨p,0,none⟩ = some (.slice ao n cap)) o5 x (((((a.put o0.dst (.pointer (some ⟨p,0,none⟩))).put o1.dst (.pointer (some ⟨p,0,none⟩))).put o2.dst (.pointer (some ⟨p,0,none⟩))).put o3.dst (.pointer (some ⟨p,0,none⟩))).put o4.dst (.slice ao n cap))) (y8 : ∀ v v',YieldsIf Tryz.prog #[o0,o1,o2,o3,o4,o5,o6,o7,o8,o9,o10] (fun u => u.cell? ⟨p,0,none⟩ = some (.slice ao n cap)) o8 (.pointer (some ⟨p,0,none⟩)) ((((((((a.put o0.dst (.pointer (some ⟨p,0,none⟩))).put o1.dst (.pointer (some ⟨p,0,none⟩))).put o2.dst (.pointer (some ⟨p,0,none⟩))).put o3.dst (.pointer (some ⟨p,0,none⟩))).put o4.dst (.slice ao n cap)).put o5.dst x).put o6.dst v).put o7.dst v')) (y9 : ∀ v v',YieldsIf Tryz.prog #[o0,o1,o2,o3,o4,o5,o6,o7,o8,o9,o10] (fun u => u.cell? ⟨p,0,none⟩ = some (.slice ao n cap)) o9 (.pointer (some ⟨p,0,none⟩)) (((((((((a.put o0.dst (.pointer (some ⟨p,0,none⟩))).put o1.dst (.pointer (some ⟨p,0,none⟩))).put o2.dst (.pointer (some ⟨p,0,none⟩))).put o3.dst (.pointer (some ⟨p,0,none⟩))).put o4.dst (.slice ao n cap)).put o5.dst x).put o6.dst v).put o7.dst v').put o8.dst (.pointer (some ⟨p,0,none⟩))))
  (q0 : ∀ c a w,Q (.panic c) (Act.put a o0.dst (.pointer (some ⟨p,0,none⟩))) w → Q (.panic c) a w) (q1 : ∀ c a w,Q (.panic c) (Act.put a o1.dst (.pointer (some ⟨p,0,none⟩))) w → Q (.panic c) a w) (q2 : ∀ c a w,Q (.panic c) (Act.put a o2.dst (.pointer (some ⟨p,0,none⟩))) w → Q (.panic c) a w) (q3 : ∀ c a w,Q (.panic c) (Act.put a o3.dst (.pointer (some ⟨p,0,none⟩))) w → Q (.panic c) a w) (q4 : ∀ c a w,Q (.panic c) (Act.put a o4.dst (.slice ao n cap)) w → Q (.panic c) a w) (q5 : ∀ c a w,Q (.panic c) (Act.put a o5.dst x) w → Q (.panic c) a w) (q8 : ∀ c a w,Q (.panic c) (Act.put a o8.dst (.pointer (some ⟨p,0,none⟩))) w → Q (.panic c) a w) (q9 : ∀ c a w,Q (.panic c) (Act.put a o9.dst (.pointer (some ⟨p,0,none⟩))) w → Q (.panic c) a w) (hg6 : o6.guard = none) (hg7 : o7.guard = none) (hg10 : o10.guard = none) (hd10 : o10.dst = none)
  (h6 : ∀ u,(execOp ((((((a.put o0.dst (.pointer (some ⟨p,0,none⟩))).put o1.dst (.pointer (some ⟨p,0,none⟩))).put o2.dst (.pointer (some ⟨p,0,none⟩))).put o3.dst (.pointer (some ⟨p,0,none⟩))).put o4.dst (.slice ao n cap)).put o5.dst x).eval o6).run Tryz.prog u = .ok (.enter f args) u)
  (k6 : ∀ u,Below w.heap.size w u → Calls Tryz.prog f args u fun e u' => (∃ g,e = .returned (.slice (some ⟨g,0,none⟩) zs.length zs.length) ∧ u.heap.size ≤ g ∧ By.Block u' g zs) ∧ Below u.heap.size u u')
  (ho7 : o7.op = .call { callee := .builtin .append,args := #[.tmp s7,.tmp x7],argTypes := #[22,22] }) (ho10 : o10.op = .store 22 (.tmp x10) (.tmp y10))
  (e7 : ∀ v,(((((((a.put o0.dst (.pointer (some ⟨p,0,none⟩))).put o1.dst (.pointer (some ⟨p,0,none⟩))).put o2.dst (.pointer (some ⟨p,0,none⟩))).put o3.dst (.pointer (some ⟨p,0,none⟩))).put o4.dst (.slice ao n cap)).put o5.dst x).put o6.dst v).tmps.toList[s7]? = some (.slice ao n cap) ∧ (((((((a.put o0.dst (.pointer (some ⟨p,0,none⟩))).put o1.dst (.pointer (some ⟨p,0,none⟩))).put o2.dst (.pointer (some ⟨p,0,none⟩))).put o3.dst (.pointer (some ⟨p,0,none⟩))).put o4.dst (.slice ao n cap)).put o5.dst x).put o6.dst v).tmps.toList[x7]? = some v)
  (e10 : ∀ v v',((((((((((a.put o0.dst (.pointer (some ⟨p,0,none⟩))).put o1.dst (.pointer (some ⟨p,0,none⟩))).put o2.dst (.pointer (some ⟨p,0,none⟩))).put o3.dst (.pointer (some ⟨p,0,none⟩))).put o4.dst (.slice ao n cap)).put o5.dst x).put o6.dst v).put o7.dst v').put o8.dst (.pointer (some ⟨p,0,none⟩))).put o9.dst (.pointer (some ⟨p,0,none⟩))).tmps.toList[x10]? = some (.pointer (some ⟨p,0,none⟩)) ∧ ((((((((((a.put o0.dst (.pointer (some ⟨p,0,none⟩))).put o1.dst (.pointer (some ⟨p,0,none⟩))).put o2.dst (.pointer (some ⟨p,0,none⟩))).put o3.dst (.pointer (some ⟨p,0,none⟩))).put o4.dst (.slice ao n cap)).put o5.dst x).put o6.dst v).put o7.dst v').put o8.dst (.pointer (some ⟨p,0,none⟩))).put o9.dst (.pointer (some ⟨p,0,none⟩))).tmps.toList[y10]? = some v')
  (hm : bs.length + zs.length ≤ 100000000)
  (k : ∀ v v' w',IwE w0 w' (bs ++ zs) → IwF w0 w w' → Q .normal ((((((((((a.put o0.dst (.pointer (some ⟨p,0,none⟩))).put o1.dst (.pointer (some ⟨p,0,none⟩))).put o2.dst (.pointer (some ⟨p,0,none⟩))).put o3.dst (.pointer (some ⟨p,0,none⟩))).put o4.dst (.slice ao n cap)).put o5.dst x).put o6.dst v).put o7.dst v').put o8.dst (.pointer (some ⟨p,0,none⟩))).put o9.dst (.pointer (some ⟨p,0,none⟩))) w') :
  (Code.region id #[o0,o1,o2,o3,o4,o5,o6,o7,o8,o9,o10] true).wp Tryz.prog Q a w := by
 have hw0 : Below w.heap.size w w.drew := (Below.refl _ _).drew
 have hSB : ∀ u,Below w.heap.size w u → u.cell? ⟨p,0,none⟩ = some (.slice ao n cap) := fun u hu => by rw [hp]; exact (hW.below hu).cell
 have hH := hSB _ hw0
 refine Bl.startG (S := fun u => u.cell? ⟨p,0,none⟩ = some (.slice ao n cap)) (x := 10) ?_
 show anyG Tryz.prog .any #[o0,o1,o2,o3,o4,o5,o6,o7,o8,o9,o10] Q _ 10 11 [false,false,false,false,false,false,false,false,false,false,false].toArray a w.drew
 refine Bl.tkG (i := 0) (oi := o0) rfl c c0 d0 q0 y0 hH ?_
 show anyG Tryz.prog .any #[o0,o1,o2,o3,o4,o5,o6,o7,o8,o9,o10] Q _ 10 10 [true,false,false,false,false,false,false,false,false,false,false].toArray _ _
 refine Bl.tkG (i := 1) (oi := o1) rfl c c1 d1 q1 y1 hH ?_
 show anyG Tryz.prog .any #[o0,o1,o2,o3,o4,o5,o6,o7,o8,o9,o10] Q _ 10 9 [true,true,false,false,false,false,false,false,false,false,false].toArray _ _
 refine Bl.tkG (i := 2) (oi := o2) rfl c c2 d2 q2 y2 hH ?_
 show anyG Tryz.prog .any #[o0,o1,o2,o3,o4,o5,o6,o7,o8,o9,o10] Q _ 10 8 [true,true,true,false,false,false,false,false,false,false,false].toArray _ _
 refine Bl.tkG (i := 3) (oi := o3) rfl c c3 d3 q3 y3 hH ?_
 show anyG Tryz.prog .any #[o0,o1,o2,o3,o4,o5,o6,o7,o8,o9,o10] Q _ 10 7 [true,true,true,true,false,false,false,false,false,false,false].toArray _ _
 refine Bl.tkG (i := 4) (oi := o4) rfl c c4 d4 q4 y4 hH ?_
 show anyG Tryz.prog .any #[o0,o1,o2,o3,o4,o5,o6,o7,o8,o9,o10] Q _ 10 6 [true,true,true,true,true,false,false,false,false,false,false].toArray _ _
 refine Bl.tkG (i := 5) (oi := o5) rfl c c5 d5 q5 y5 hH ?_
 show anyG Tryz.prog .any #[o0,o1,o2,o3,o4,o5,o6,o7,o8,o9,o10] Q _ 10 5 [true,true,true,true,true,true,false,false,false,false,false].toArray _ _
 refine Bl.oneG (i := 6) (oi := o6) rfl r6 (fun K hK => ?_)
 refine Bl.step_call hg6 (h6 _) ((k6 _ hw0).mono ?_)
 rintro e u1 ⟨⟨g,rfl,hg,hblk⟩,b1⟩
 have b2 : Below w.heap.size w u1 := bchain hw0 b1
 refine ⟨_,rfl,hK.out _ _ (.inr (hSB _ b2)) ?_⟩
 clear hK K
 show anyG Tryz.prog .any #[o0,o1,o2,o3,o4,o5,o6,o7,o8,o9,o10] Q _ 10 4 [true,true,true,true,true,true,true,false,false,false,false].toArray _ _
 refine Bl.oneG (i := 7) (oi := o7) rfl r7 (fun K hK => ?_)
 have hw7 : Region.wanted o7 (yielded #[o0,o1,o2,o3,o4,o5,o6,o7,o8,o9,o10] (((((((a.put o0.dst (.pointer (some ⟨p,0,none⟩))).put o1.dst (.pointer (some ⟨p,0,none⟩))).put o2.dst (.pointer (some ⟨p,0,none⟩))).put o3.dst (.pointer (some ⟨p,0,none⟩))).put o4.dst (.slice ao n cap)).put o5.dst x).put o6.dst (.slice (some ⟨g,0,none⟩) zs.length zs.length)).tmps) = true := by simp [Region.wanted,hg7]
 rw [if_pos hw7]
 have hW1 := hW.below b2
 refine By.wp_append u1 (.tmp s7) (.tmp x7) ho7 (w0.heap.size + 1) (.slice ao n cap) bs (Ca.evT (e7 _).1) hW1.own ⟨g,0,none⟩ zs.length zs.length zs (Ca.evT (e7 _).2) rfl (hblk.ls (by omega)).seg (by omega) hW1.lt ?_
 intro v7 w7 o7' gr7 at7
 obtain ⟨ao',n',cap',rfl⟩ := By.own_slice o7'
 have hN := hW1.put o7' gr7
 have hge := By.own_ge hW1.own
 have hb7 : w7.heap[p]? = u1.heap[p]? := by rw [hp]; exact gr7.block _ hW1.lt (fun e => by have := hge _ e.symm; omega)
 have hS7 : w7.cell? ⟨p,0,none⟩ = some (.slice ao n cap) := (World.cell?_of_block hb7).trans (hSB _ b2)
 have hf7 : w7.frozen? ⟨p,0,none⟩ = false := (World.frozen?_of_block hb7).trans (by rw [hp]; exact hW1.frozen 0)
 refine hK.out _ _ (.inr hS7) ?_
 clear hK K
 show anyG Tryz.prog .any #[o0,o1,o2,o3,o4,o5,o6,o7,o8,o9,o10] Q _ 10 3 [true,true,true,true,true,true,true,true,false,false,false].toArray _ _
 refine Bl.tkG (i := 8) (oi := o8) rfl c c8 d8 q8 (y8 _ _) hS7 ?_
 show anyG Tryz.prog .any #[o0,o1,o2,o3,o4,o5,o6,o7,o8,o9,o10] Q _ 10 2 [true,true,true,true,true,true,true,true,true,false,false].toArray _ _
 refine Bl.tkG (i := 9) (oi := o9) rfl c c9 d9 q9 (y9 _ _) hS7 ?_
 show anyG Tryz.prog .any #[o0,o1,o2,o3,o4,o5,o6,o7,o8,o9,o10] Q _ 10 1 [true,true,true,true,true,true,true,true,true,true,false].toArray _ _
 refine Bl.oneG (i := 10) (oi := o10) rfl r10 (fun K hK => ?_)
 refine step_bytes hg10 ho10 hd10 (e10 _ _).1 (e10 _ _).2 hS7 hf7 (hK.out _ _ (.inl (Nat.le_refl _)) ?_)
 clear hK K
 have hN2 : IwE w0 (w7.setCell ⟨p,0,none⟩ (.slice ao' n' cap')) (bs ++ zs) := ⟨ao',n',cap',by rw [hp]; exact hN⟩
 have hF : IwF w0 w (w7.setCell ⟨p,0,none⟩ (.slice ao' n' cap')) := by rw [hp]; exact (IwF.of b2 hW).trans (hW1.frame gr7 at7 hN)
 exact anyG_done rE (k _ _ _ hN2 hF) _
section
variable {ops : Array Oper} {o : Oper} {a : Act} {S : World → Prop} {t : Tmp} {p : Nat}
theorem y_move {v : Value} (hgd : o.guard = none) (ho : o.op = .move (.tmp t)) (hp : a.tmps.toList[t]? = some v) : YieldsIf Tryz.prog ops S o v a := by
 refine .inl ⟨by simp [Region.wanted,hgd],fun u _ => ?_⟩
 simp only [execOp,ho,Ca.evT hp]
 simp [go_sem]
theorem y_nil (hgd : o.guard = none) (ho : o.op = .nilCheck (.tmp t)) (hp : a.tmps.toList[t]? = some (.pointer (some ⟨p,0,none⟩))) : YieldsIf Tryz.prog ops S o (.pointer (some ⟨p,0,none⟩)) a := by
 refine .inl ⟨by simp [Region.wanted,hgd],fun u _ => ?_⟩
 simp only [execOp,ho,Ca.evT hp]
 simp [go_sem]
theorem Iw.y_b (hgd : o.guard = none) (ho : o.op = .fieldAddr 51 (.tmp t) 0) (hp : a.tmps.toList[t]? = some (.pointer (some ⟨p,0,none⟩))) : YieldsIf Tryz.prog ops S o (.pointer (some ⟨p,0,none⟩)) a := by
 refine .inl ⟨by simp [Region.wanted,hgd],fun u _ => ?_⟩
 simp only [execOp,ho,Ca.evT hp]
 simp [go_sem]
theorem Iw.y_load {ao : Option Addr} {n c : Nat} (hgd : o.guard = none) (ho : o.op = .load 22 (.tmp t)) (hp : a.tmps.toList[t]? = some (.pointer (some ⟨p,0,none⟩))) (hS : ∀ u,S u → u.cell? ⟨p,0,none⟩ = some (.slice ao n c)) : YieldsIf Tryz.prog ops S o (.slice ao n c) a := by
 refine .inl ⟨by simp [Region.wanted,hgd],fun u hu => ?_⟩
 have h := hS u hu
 simp only [execOp,ho,Ca.evT hp]
 simp [go_sem,h]
end
theorem nm_10 (n : Int) : (nm n).length ≤ 10 := vbF_len 10 _
theorem tx_74 (s : ByteArray) (hs : s.size ≤ 1000) : (tx s).length ≤ 1010 := by
 unfold tx
 rw [List.length_append]
 have := nm_10 (s.size : Int)
 have e : (txt s).length = s.size := by unfold txt; rw [Array.length_toList]; rfl
 omega
theorem pack_flag (x : Bool) (w : World) : Calls Tryz.prog 128 #[.slice none 0 0,.bool x] w fun e w' => (∃ g,e = .returned (.slice (some ⟨g,0,none⟩) (Im.flB x).length (Im.flB x).length) ∧ w.heap.size ≤ g ∧ By.Block w' g (Im.flB x)) ∧ Below w.heap.size w w' := by
 have f0 : Fit 0 := ⟨by omega,by omega⟩
 have f1 : Fit 1 := ⟨by omega,by omega⟩
 cases x
 ·
  go_enter Tryz.func128,Tryz.ntmps128
  go_wp2_with fail
  refine (pack_num [] 0 f0 none 0 0 w (By.ls_nil w) (by omega)).mono ?_
  rintro e u' ⟨⟨g,rfl,hg,hb⟩,b⟩
  rw [Nat.zero_add]
  go_wp2_with fail
  go_ret
  exact ⟨⟨g,rfl,hg,hb⟩,b⟩
 ·
  go_enter Tryz.func128,Tryz.ntmps128
  go_wp2_with fail
  refine (pack_num [] 1 f1 none 0 0 w (By.ls_nil w) (by omega)).mono ?_
  rintro e u' ⟨⟨g,rfl,hg,hb⟩,b⟩
  rw [Nat.zero_add]
  go_wp2_with fail
  go_ret
  exact ⟨⟨g,rfl,hg,hb⟩,b⟩
set_option maxHeartbeats 2000000 in
theorem iw_num (x : Int) (hx : Fit x) (bs : List UInt8) (w0 w : World) (hW : IwE w0 w bs) (hm : bs.length ≤ 1000000) :
  Calls Tryz.prog 43 #[.pointer (some ⟨w0.heap.size,0,none⟩),.int .i64 x] w fun e w' => e = .returned (.tuple #[]) ∧ IwE w0 w' (bs ++ nm x) ∧ IwF w0 w w' := by
 obtain ⟨ao,n,cap,h⟩ := hW
 have HW := Lib.hid h
 have HM := Lib.hid hm
 have HX := Lib.hid hx
 obtain ⟨p,hp⟩ : ∃ p,w0.heap.size = p := ⟨_,rfl⟩
 have HP := Lib.hid hp
 rw [hp]
 clear h hm hp
 go_enter Tryz.func43,Tryz.ntmps43
 go_wp2_with fail
 refine Iw.wp_put (f := 88) (args := #[.slice none 0 0,.int .i64 x]) (s7 := 8) (x7 := 10) (x10 := 13) (y10 := 11) p (.int .i64 x) w0 bs (nm x) ao n cap HP.out.symm HW.out ?_ ?_ ?_ ?_ ?_ ?_ ?_ ?_ ?_ ?_ ?_ ?_ ?_ ?_ ?_ ?_ ?_ ?_ ?_ ?_ ?_ ?_ ?_ ?_ ?_ ?_ ?_ ?_ ?_ ?_ ?_ ?_ ?_ ?_ ?_ ?_ ?_ rfl rfl rfl rfl ?_ ?_ rfl rfl ?_ ?_ ?_ ?_
 · kernel_rfl
 · kernel_rfl
 · kernel_rfl
 · kernel_rfl
 · kernel_rfl
 · kernel_rfl
 · kernel_rfl
 · kernel_rfl
 · kernel_rfl
 · kernel_rfl
 · kernel_rfl
 · kernel_rfl
 · kernel_rfl
 · kernel_rfl
 · kernel_rfl
 · kernel_rfl
 · kernel_rfl
 · kernel_rfl
 · kernel_rfl
 · kernel_rfl
 · kernel_rfl
 · exact y_move (t := 0) rfl rfl (by kernel_rfl)
 · exact y_move (t := 0) rfl rfl (by kernel_rfl)
 · exact y_nil (t := 5) rfl rfl (by kernel_rfl)
 · exact Iw.y_b (t := 6) rfl rfl (by kernel_rfl)
 · exact Iw.y_load (t := 7) rfl rfl (by kernel_rfl) fun u hu => hu
 · exact y_move (t := 1) rfl rfl (by kernel_rfl)
 · exact fun v v' => y_nil (t := 4) rfl rfl (by kernel_rfl)
 · exact fun v v' => Iw.y_b (t := 12) rfl rfl (by kernel_rfl)
 · exact fun _ _ _ h => h
 · exact fun _ _ _ h => h
 · exact fun _ _ _ h => h
 · exact fun _ _ _ h => h
 · exact fun _ _ _ h => h
 · exact fun _ _ _ h => h
 · exact fun _ _ _ h => h
 · exact fun _ _ _ h => h
 ·
  intro u
  refine Bl.enters rfl ?_ Tryz.func88 ?_ rfl _
  · kernel_rfl
  · kernel_rfl
 ·
  intro u hu
  refine (pack_num [] x HX.out none 0 0 u (By.ls_nil u) (by omega)).mono ?_
  rintro e u' ⟨⟨g,rfl,hg,hb⟩,b⟩
  rw [Nat.zero_add]
  exact ⟨⟨g,rfl,hg,hb⟩,b⟩
 ·
  intro v
  refine ⟨?_,?_⟩
  · kernel_rfl
  · kernel_rfl
 ·
  intro v v'
  refine ⟨?_,?_⟩
  · kernel_rfl
  · kernel_rfl
 ·
  have := HM.out
  have := nm_10 x
  omega
 ·
  intro v v' w' hw' hf'
  go_wp2_with fail
  go_end0
  exact ⟨rfl,hw',hf'⟩
set_option maxHeartbeats 2000000 in
theorem iw_text (x : ByteArray) (hx : x.size ≤ 1000) (bs : List UInt8) (w0 w : World) (hW : IwE w0 w bs) (hm : bs.length ≤ 1000000) :
  Calls Tryz.prog 83 #[.pointer (some ⟨w0.heap.size,0,none⟩),.string x] w fun e w' => e = .returned (.tuple #[]) ∧ IwE w0 w' (bs ++ tx x) ∧ IwF w0 w w' := by
 obtain ⟨ao,n,cap,h⟩ := hW
 have HW := Lib.hid h
 have HM := Lib.hid hm
 have HX := Lib.hid hx
 obtain ⟨p,hp⟩ : ∃ p,w0.heap.size = p := ⟨_,rfl⟩
 have HP := Lib.hid hp
 rw [hp]
 clear h hm hp
 go_enter Tryz.func83,Tryz.ntmps83
 go_wp2_with fail
 refine Iw.wp_put (f := 127) (args := #[.slice none 0 0,.string x]) (s7 := 8) (x7 := 10) (x10 := 13) (y10 := 11) p (.string x) w0 bs (tx x) ao n cap HP.out.symm HW.out ?_ ?_ ?_ ?_ ?_ ?_ ?_ ?_ ?_ ?_ ?_ ?_ ?_ ?_ ?_ ?_ ?_ ?_ ?_ ?_ ?_ ?_ ?_ ?_ ?_ ?_ ?_ ?_ ?_ ?_ ?_ ?_ ?_ ?_ ?_ ?_ ?_ rfl rfl rfl rfl ?_ ?_ rfl rfl ?_ ?_ ?_ ?_
 · kernel_rfl
 · kernel_rfl
 · kernel_rfl
 · kernel_rfl
 · kernel_rfl
 · kernel_rfl
 · kernel_rfl
 · kernel_rfl
 · kernel_rfl
 · kernel_rfl
 · kernel_rfl
 · kernel_rfl
 · kernel_rfl
 · kernel_rfl
 · kernel_rfl
 · kernel_rfl
 · kernel_rfl
 · kernel_rfl
 · kernel_rfl
 · kernel_rfl
 · kernel_rfl
 · exact y_move (t := 0) rfl rfl (by kernel_rfl)
 · exact y_move (t := 0) rfl rfl (by kernel_rfl)
 · exact y_nil (t := 5) rfl rfl (by kernel_rfl)
 · exact Iw.y_b (t := 6) rfl rfl (by kernel_rfl)
 · exact Iw.y_load (t := 7) rfl rfl (by kernel_rfl) fun u hu => hu
 · exact y_move (t := 1) rfl rfl (by kernel_rfl)
 · exact fun v v' => y_nil (t := 4) rfl rfl (by kernel_rfl)
 · exact fun v v' => Iw.y_b (t := 12) rfl rfl (by kernel_rfl)
 · exact fun _ _ _ h => h
 · exact fun _ _ _ h => h
 · exact fun _ _ _ h => h
 · exact fun _ _ _ h => h
 · exact fun _ _ _ h => h
 · exact fun _ _ _ h => h
 · exact fun _ _ _ h => h
 · exact fun _ _ _ h => h
 ·
  intro u
  refine Bl.enters rfl ?_ Tryz.func127 ?_ rfl _
  · kernel_rfl
  · kernel_rfl
 ·
  intro u hu
  refine (pack_text [] x (by have := HX.out; omega) none 0 0 u (By.ls_nil u) (by omega)).mono ?_
  rintro e u' ⟨⟨g,N,rfl,hN,hg,hb⟩,b⟩
  subst hN
  exact ⟨⟨g,rfl,hg,hb⟩,b⟩
 ·
  intro v
  refine ⟨?_,?_⟩
  · kernel_rfl
  · kernel_rfl
 ·
  intro v v'
  refine ⟨?_,?_⟩
  · kernel_rfl
  · kernel_rfl
 ·
  have := HM.out
  have := tx_74 x HX.out
  omega
 ·
  intro v v' w' hw' hf'
  go_wp2_with fail
  go_end0
  exact ⟨rfl,hw',hf'⟩
set_option maxHeartbeats 2000000 in
theorem iw_flag (x : Bool) (bs : List UInt8) (w0 w : World) (hW : IwE w0 w bs) (hm : bs.length ≤ 1000000) :
  Calls Tryz.prog 85 #[.pointer (some ⟨w0.heap.size,0,none⟩),.bool x] w fun e w' => e = .returned (.tuple #[]) ∧ IwE w0 w' (bs ++ Im.flB x) ∧ IwF w0 w w' := by
 obtain ⟨ao,n,cap,h⟩ := hW
 have HW := Lib.hid h
 have HM := Lib.hid hm
 skip
 obtain ⟨p,hp⟩ : ∃ p,w0.heap.size = p := ⟨_,rfl⟩
 have HP := Lib.hid hp
 rw [hp]
 clear h hm hp
 go_enter Tryz.func85,Tryz.ntmps85
 go_wp2_with fail
 refine Iw.wp_put (f := 128) (args := #[.slice none 0 0,.bool x]) (s7 := 8) (x7 := 10) (x10 := 13) (y10 := 11) p (.bool x) w0 bs (Im.flB x) ao n cap HP.out.symm HW.out ?_ ?_ ?_ ?_ ?_ ?_ ?_ ?_ ?_ ?_ ?_ ?_ ?_ ?_ ?_ ?_ ?_ ?_ ?_ ?_ ?_ ?_ ?_ ?_ ?_ ?_ ?_ ?_ ?_ ?_ ?_ ?_ ?_ ?_ ?_ ?_ ?_ rfl rfl rfl rfl ?_ ?_ rfl rfl ?_ ?_ ?_ ?_
 · kernel_rfl
 · kernel_rfl
 · kernel_rfl
 · kernel_rfl
 · kernel_rfl
 · kernel_rfl
 · kernel_rfl
 · kernel_rfl
 · kernel_rfl
 · kernel_rfl
 · kernel_rfl
 · kernel_rfl
 · kernel_rfl
 · kernel_rfl
 · kernel_rfl
 · kernel_rfl
 · kernel_rfl
 · kernel_rfl
 · kernel_rfl
 · kernel_rfl
 · kernel_rfl
 · exact y_move (t := 0) rfl rfl (by kernel_rfl)
 · exact y_move (t := 0) rfl rfl (by kernel_rfl)
 · exact y_nil (t := 5) rfl rfl (by kernel_rfl)
 · exact Iw.y_b (t := 6) rfl rfl (by kernel_rfl)
 · exact Iw.y_load (t := 7) rfl rfl (by kernel_rfl) fun u hu => hu
 · exact y_move (t := 1) rfl rfl (by kernel_rfl)
 · exact fun v v' => y_nil (t := 4) rfl rfl (by kernel_rfl)
 · exact fun v v' => Iw.y_b (t := 12) rfl rfl (by kernel_rfl)
 · exact fun _ _ _ h => h
 · exact fun _ _ _ h => h
 · exact fun _ _ _ h => h
 · exact fun _ _ _ h => h
 · exact fun _ _ _ h => h
 · exact fun _ _ _ h => h
 · exact fun _ _ _ h => h
 · exact fun _ _ _ h => h
 ·
  intro u
  refine Bl.enters rfl ?_ Tryz.func128 ?_ rfl _
  · kernel_rfl
  · kernel_rfl
 ·
  intro u hu
  exact pack_flag x u
 ·
  intro v
  refine ⟨?_,?_⟩
  · kernel_rfl
  · kernel_rfl
 ·
  intro v v'
  refine ⟨?_,?_⟩
  · kernel_rfl
  · kernel_rfl
 ·
  have := HM.out
  have := nm_10 (if x = true then 1 else 0)
  unfold Im.flB
  omega
 ·
  intro v v' w' hw' hf'
  go_wp2_with fail
  go_end0
  exact ⟨rfl,hw',hf'⟩
end Go.Proofs.YtillcleccjgocaaGreat
namespace Go.Proofs.YtillcleccjgocaaGreat
open Go.RowKit
open Mem Pk Cm
structure Ib (w0 w : World) (bs : List UInt8) (g : Nat) (o : Obj) : Prop where
 wr : IwE w0 w bs
 ap : Ap w0 w g
 box : w.heap[g]? = some o
theorem Ib.next {w0 w w' : World} {bs bs' : List UInt8} {g : Nat} {o : Obj} (h : Ib w0 w bs g o) (k : IwE w0 w' bs') (f : IwF w0 w w') : Ib w0 w' bs' g o := ⟨k,(f g h.ap).1,(f g h.ap).2.trans h.box⟩
theorem IwE.boxed {w0 w : World} {bs : List UInt8} (h : IwE w0 w bs) (o : Obj) : Ib w0 (w.alloc o) bs w.heap.size o ∧ IwF w0 w (w.alloc o) := by
 obtain ⟨ao,n,cap,h⟩ := h
 have hb : Below w.heap.size w (w.alloc o) := (Below.refl _ _).alloc (Nat.le_refl _) o
 exact ⟨⟨⟨ao,n,cap,h.below hb⟩,h.fresh o,heap_alloc_new w o⟩,IwF.of hb h⟩
theorem Ib.cell {w0 w : World} {bs : List UInt8} {g : Nat} {cs : Array Value} {t : TypeId} (h : Ib w0 w bs g (.cells cs t (0,0))) (i : Nat) : w.cell? ⟨g,i,none⟩ = cs[i]? := cell_of_row w g i _ _ _ h.box
theorem day_30 (y m d : Int) : (Cm.dayB y m d).length ≤ 1100 := by
 unfold Cm.dayB
 rw [List.length_append,List.length_append]
 have := nm_10 y
 have := nm_10 m
 have := nm_10 d
 omega
set_option maxHeartbeats 1000000 in
theorem iw_day (y m d : Int) (hh : Fit y ∧ Fit m ∧ Fit d) (bs : List UInt8) (w0 w : World) (hW : IwE w0 w bs) (hm : bs.length ≤ 990000) :
  Calls Tryz.prog 84 #[.pointer (some ⟨w0.heap.size,0,none⟩),.agg #[.int .i64 y,.int .i64 m,.int .i64 d]] w fun e w' => e = .returned (.tuple #[]) ∧ IwE w0 w' (bs ++ Cm.dayB y m d) ∧ IwF w0 w w' := by
 have HM := Lib.hid hm
 have HH := Lib.hid hh
 obtain ⟨hI,hF⟩ := hW.boxed (.cells #[.int .i64 y,.int .i64 m,.int .i64 d] 61)
 obtain ⟨U,hU⟩ : ∃ U,w.alloc (.cells #[.int .i64 y,.int .i64 m,.int .i64 d] 61) = U := ⟨_,rfl⟩
 rw [hU] at hI hF
 have HI0 := Lib.hid hI
 have HF0 := Lib.hid hF
 obtain ⟨g,hg⟩ : ∃ g,w.heap.size = g := ⟨_,rfl⟩
 rw [hg] at HI0 hI
 have HG := Lib.hid hg
 have c0 := hI.cell 0
 have c1 := hI.cell 1
 have c2 := hI.cell 2
 simp only [List.getElem?_toArray,List.getElem?_cons_zero,List.getElem?_cons_succ] at c0 c1 c2
 clear hI hF hW hm hh
 skip
 go_enter Tryz.func84,Tryz.ntmps84
 go_wp2_with fail
 try rw [hU]
 try rw [hg]
 clear hU hg
 refine (iw_num (y) (HH.out.1) bs w0 U (HI0.out.wr) (by have := HM.out; first | omega | (simp only [List.length_append]; omega))).mono ?_
 rintro e w1 ⟨rfl,i1,f1⟩
 have HI1 := Lib.hid (HI0.out.next i1 f1)
 have HF1 := Lib.hid (HF0.out.trans f1)
 have HL1 : Hid ((nm (y)).length ≤ 1100) := Lib.hid (by exact Nat.le_trans (nm_10 _) (by omega))
 clear c0 c1 c2 i1 f1
 have c0 := HI1.out.cell 0
 have c1 := HI1.out.cell 1
 have c2 := HI1.out.cell 2
 simp only [List.getElem?_toArray,List.getElem?_cons_zero,List.getElem?_cons_succ] at c0 c1 c2
 go_wp2_with fail
 refine (iw_num (m) (HH.out.2.1) (bs ++ nm (y)) w0 w1 (HI1.out.wr) (by have := HM.out; have := HL1.out; first | omega | (simp only [List.length_append]; omega))).mono ?_
 rintro e w2 ⟨rfl,i2,f2⟩
 have HI2 := Lib.hid (HI1.out.next i2 f2)
 have HF2 := Lib.hid (HF1.out.trans f2)
 have HL2 : Hid ((nm (m)).length ≤ 1100) := Lib.hid (by exact Nat.le_trans (nm_10 _) (by omega))
 clear c0 c1 c2 i2 f2
 have c0 := HI2.out.cell 0
 have c1 := HI2.out.cell 1
 have c2 := HI2.out.cell 2
 simp only [List.getElem?_toArray,List.getElem?_cons_zero,List.getElem?_cons_succ] at c0 c1 c2
 go_wp2_with fail
 refine (iw_num (d) (HH.out.2.2) ((bs ++ nm (y)) ++ nm (m)) w0 w2 (HI2.out.wr) (by have := HM.out; have := HL1.out; have := HL2.out; first | omega | (simp only [List.length_append]; omega))).mono ?_
 rintro e w3 ⟨rfl,i3,f3⟩
 have HI3 := Lib.hid (HI2.out.next i3 f3)
 have HF3 := Lib.hid (HF2.out.trans f3)
 have HL3 : Hid ((nm (d)).length ≤ 1100) := Lib.hid (by exact Nat.le_trans (nm_10 _) (by omega))
 clear c0 c1 c2 i3 f3
 go_wp2_with fail
 go_end0
 refine ⟨rfl,?_,HF3.out⟩
 have h := HI3.out.wr
 unfold Cm.dayB
 simpa only [List.append_assoc] using h
set_option maxHeartbeats 1000000 in
theorem iw_rate (r : Vt.Rt) (hh : r.cat.size ≤ 1000 ∧ Fit r.y ∧ Fit r.m ∧ Fit r.d ∧ Fit r.bp) (bs : List UInt8) (w0 w : World) (hW : IwE w0 w bs) (hm : bs.length ≤ 900000) :
  Calls Tryz.prog 36 #[.pointer (some ⟨w0.heap.size,0,none⟩),.agg #[.string r.cat,.int .i64 r.y,.int .i64 r.m,.int .i64 r.d,.int .i64 r.bp]] w fun e w' => e = .returned (.tuple #[]) ∧ IwE w0 w' (bs ++ Im.rateB r) ∧ IwF w0 w w' := by
 have HM := Lib.hid hm
 have HH := Lib.hid hh
 obtain ⟨hI,hF⟩ := hW.boxed (.cells #[.string r.cat,.int .i64 r.y,.int .i64 r.m,.int .i64 r.d,.int .i64 r.bp] 63)
 obtain ⟨U,hU⟩ : ∃ U,w.alloc (.cells #[.string r.cat,.int .i64 r.y,.int .i64 r.m,.int .i64 r.d,.int .i64 r.bp] 63) = U := ⟨_,rfl⟩
 rw [hU] at hI hF
 have HI0 := Lib.hid hI
 have HF0 := Lib.hid hF
 obtain ⟨g,hg⟩ : ∃ g,w.heap.size = g := ⟨_,rfl⟩
 rw [hg] at HI0 hI
 have HG := Lib.hid hg
 have c0 := hI.cell 0
 have c1 := hI.cell 1
 have c2 := hI.cell 2
 have c3 := hI.cell 3
 have c4 := hI.cell 4
 simp only [List.getElem?_toArray,List.getElem?_cons_zero,List.getElem?_cons_succ] at c0 c1 c2 c3 c4
 clear hI hF hW hm hh
 skip
 go_enter Tryz.func36,Tryz.ntmps36
 go_wp2_with fail
 try rw [hU]
 try rw [hg]
 clear hU hg
 refine (iw_text (r.cat) (HH.out.1) bs w0 U (HI0.out.wr) (by have := HM.out; first | omega | (simp only [List.length_append]; omega))).mono ?_
 rintro e w1 ⟨rfl,i1,f1⟩
 have HI1 := Lib.hid (HI0.out.next i1 f1)
 have HF1 := Lib.hid (HF0.out.trans f1)
 have HL1 : Hid ((tx (r.cat)).length ≤ 1100) := Lib.hid (by exact Nat.le_trans (tx_74 _ HH.out.1) (by omega))
 clear c0 c1 c2 c3 c4 i1 f1
 have c0 := HI1.out.cell 0
 have c1 := HI1.out.cell 1
 have c2 := HI1.out.cell 2
 have c3 := HI1.out.cell 3
 have c4 := HI1.out.cell 4
 simp only [List.getElem?_toArray,List.getElem?_cons_zero,List.getElem?_cons_succ] at c0 c1 c2 c3 c4
 go_wp2_with fail
 refine (iw_day r.y r.m r.d ⟨HH.out.2.1,HH.out.2.2.1,HH.out.2.2.2.1⟩ (bs ++ tx (r.cat)) w0 w1 (HI1.out.wr) (by have := HM.out; have := HL1.out; first | omega | (simp only [List.length_append]; omega))).mono ?_
 rintro e w2 ⟨rfl,i2,f2⟩
 have HI2 := Lib.hid (HI1.out.next i2 f2)
 have HF2 := Lib.hid (HF1.out.trans f2)
 have HL2 : Hid ((Cm.dayB r.y r.m r.d).length ≤ 1100) := Lib.hid (by exact day_30 _ _ _)
 clear c0 c1 c2 c3 c4 i2 f2
 have c0 := HI2.out.cell 0
 have c1 := HI2.out.cell 1
 have c2 := HI2.out.cell 2
 have c3 := HI2.out.cell 3
 have c4 := HI2.out.cell 4
 simp only [List.getElem?_toArray,List.getElem?_cons_zero,List.getElem?_cons_succ] at c0 c1 c2 c3 c4
 go_wp2_with fail
 refine (iw_num (r.bp) (HH.out.2.2.2.2) ((bs ++ tx (r.cat)) ++ Cm.dayB r.y r.m r.d) w0 w2 (HI2.out.wr) (by have := HM.out; have := HL1.out; have := HL2.out; first | omega | (simp only [List.length_append]; omega))).mono ?_
 rintro e w3 ⟨rfl,i3,f3⟩
 have HI3 := Lib.hid (HI2.out.next i3 f3)
 have HF3 := Lib.hid (HF2.out.trans f3)
 have HL3 : Hid ((nm (r.bp)).length ≤ 1100) := Lib.hid (by exact Nat.le_trans (nm_10 _) (by omega))
 clear c0 c1 c2 c3 c4 i3 f3
 go_wp2_with fail
 go_end0
 refine ⟨rfl,?_,HF3.out⟩
 have h := HI3.out.wr
 unfold Im.rateB
 simpa only [List.append_assoc] using h
set_option maxHeartbeats 1000000 in
theorem iw_series (r : Sr.T) (hh : r.name.size ≤ 1000 ∧ Fit r.limit) (bs : List UInt8) (w0 w : World) (hW : IwE w0 w bs) (hm : bs.length ≤ 900000) :
  Calls Tryz.prog 38 #[.pointer (some ⟨w0.heap.size,0,none⟩),.agg #[.string r.name,.int .i64 r.next,.int .i64 r.limit,.bool r.shut]] w fun e w' => e = .returned (.tuple #[]) ∧ IwE w0 w' (bs ++ Im.serB r) ∧ IwF w0 w w' := by
 have HM := Lib.hid hm
 have HH := Lib.hid hh
 obtain ⟨hI,hF⟩ := hW.boxed (.cells #[.string r.name,.int .i64 r.next,.int .i64 r.limit,.bool r.shut] 66)
 obtain ⟨U,hU⟩ : ∃ U,w.alloc (.cells #[.string r.name,.int .i64 r.next,.int .i64 r.limit,.bool r.shut] 66) = U := ⟨_,rfl⟩
 rw [hU] at hI hF
 have HI0 := Lib.hid hI
 have HF0 := Lib.hid hF
 obtain ⟨g,hg⟩ : ∃ g,w.heap.size = g := ⟨_,rfl⟩
 rw [hg] at HI0 hI
 have HG := Lib.hid hg
 have c0 := hI.cell 0
 have c1 := hI.cell 1
 have c2 := hI.cell 2
 have c3 := hI.cell 3
 simp only [List.getElem?_toArray,List.getElem?_cons_zero,List.getElem?_cons_succ] at c0 c1 c2 c3
 clear hI hF hW hm hh
 skip
 go_enter Tryz.func38,Tryz.ntmps38
 go_wp2_with fail
 try rw [hU]
 try rw [hg]
 clear hU hg
 refine (iw_text (r.name) (HH.out.1) bs w0 U (HI0.out.wr) (by have := HM.out; first | omega | (simp only [List.length_append]; omega))).mono ?_
 rintro e w1 ⟨rfl,i1,f1⟩
 have HI1 := Lib.hid (HI0.out.next i1 f1)
 have HF1 := Lib.hid (HF0.out.trans f1)
 have HL1 : Hid ((tx (r.name)).length ≤ 1100) := Lib.hid (by exact Nat.le_trans (tx_74 _ HH.out.1) (by omega))
 clear c0 c1 c2 c3 i1 f1
 have c0 := HI1.out.cell 0
 have c1 := HI1.out.cell 1
 have c2 := HI1.out.cell 2
 have c3 := HI1.out.cell 3
 simp only [List.getElem?_toArray,List.getElem?_cons_zero,List.getElem?_cons_succ] at c0 c1 c2 c3
 go_wp2_with fail
 refine (iw_num (r.limit) (HH.out.2) (bs ++ tx (r.name)) w0 w1 (HI1.out.wr) (by have := HM.out; have := HL1.out; first | omega | (simp only [List.length_append]; omega))).mono ?_
 rintro e w2 ⟨rfl,i2,f2⟩
 have HI2 := Lib.hid (HI1.out.next i2 f2)
 have HF2 := Lib.hid (HF1.out.trans f2)
 have HL2 : Hid ((nm (r.limit)).length ≤ 1100) := Lib.hid (by exact Nat.le_trans (nm_10 _) (by omega))
 clear c0 c1 c2 c3 i2 f2
 have c0 := HI2.out.cell 0
 have c1 := HI2.out.cell 1
 have c2 := HI2.out.cell 2
 have c3 := HI2.out.cell 3
 simp only [List.getElem?_toArray,List.getElem?_cons_zero,List.getElem?_cons_succ] at c0 c1 c2 c3
 go_wp2_with fail
 refine (iw_flag r.shut ((bs ++ tx (r.name)) ++ nm (r.limit)) w0 w2 (HI2.out.wr) (by have := HM.out; have := HL1.out; have := HL2.out; first | omega | (simp only [List.length_append]; omega))).mono ?_
 rintro e w3 ⟨rfl,i3,f3⟩
 have HI3 := Lib.hid (HI2.out.next i3 f3)
 have HF3 := Lib.hid (HF2.out.trans f3)
 have HL3 : Hid ((Im.flB r.shut).length ≤ 1100) := Lib.hid (by exact Nat.le_trans (nm_10 _) (by omega))
 clear c0 c1 c2 c3 i3 f3
 go_wp2_with fail
 go_end0
 refine ⟨rfl,?_,HF3.out⟩
 have h := HI3.out.wr
 unfold Im.serB
 simpa only [List.append_assoc] using h
set_option maxHeartbeats 1000000 in
theorem iw_part (r : Pt.T) (hh : r.cat.size ≤ 1000 ∧ Fit r.bp ∧ Fit r.net) (bs : List UInt8) (w0 w : World) (hW : IwE w0 w bs) (hm : bs.length ≤ 900000) :
  Calls Tryz.prog 87 #[.pointer (some ⟨w0.heap.size,0,none⟩),.agg #[.string r.cat,.int .i64 r.bp,.int .i64 r.net,.int .i64 r.tax]] w fun e w' => e = .returned (.tuple #[]) ∧ IwE w0 w' (bs ++ Im.partB r) ∧ IwF w0 w w' := by
 have HM := Lib.hid hm
 have HH := Lib.hid hh
 obtain ⟨hI,hF⟩ := hW.boxed (.cells #[.string r.cat,.int .i64 r.bp,.int .i64 r.net,.int .i64 r.tax] 134)
 obtain ⟨U,hU⟩ : ∃ U,w.alloc (.cells #[.string r.cat,.int .i64 r.bp,.int .i64 r.net,.int .i64 r.tax] 134) = U := ⟨_,rfl⟩
 rw [hU] at hI hF
 have HI0 := Lib.hid hI
 have HF0 := Lib.hid hF
 obtain ⟨g,hg⟩ : ∃ g,w.heap.size = g := ⟨_,rfl⟩
 rw [hg] at HI0 hI
 have HG := Lib.hid hg
 have c0 := hI.cell 0
 have c1 := hI.cell 1
 have c2 := hI.cell 2
 have c3 := hI.cell 3
 simp only [List.getElem?_toArray,List.getElem?_cons_zero,List.getElem?_cons_succ] at c0 c1 c2 c3
 clear hI hF hW hm hh
 skip
 go_enter Tryz.func87,Tryz.ntmps87
 go_wp2_with fail
 try rw [hU]
 try rw [hg]
 clear hU hg
 refine (iw_text (r.cat) (HH.out.1) bs w0 U (HI0.out.wr) (by have := HM.out; first | omega | (simp only [List.length_append]; omega))).mono ?_
 rintro e w1 ⟨rfl,i1,f1⟩
 have HI1 := Lib.hid (HI0.out.next i1 f1)
 have HF1 := Lib.hid (HF0.out.trans f1)
 have HL1 : Hid ((tx (r.cat)).length ≤ 1100) := Lib.hid (by exact Nat.le_trans (tx_74 _ HH.out.1) (by omega))
 clear c0 c1 c2 c3 i1 f1
 have c0 := HI1.out.cell 0
 have c1 := HI1.out.cell 1
 have c2 := HI1.out.cell 2
 have c3 := HI1.out.cell 3
 simp only [List.getElem?_toArray,List.getElem?_cons_zero,List.getElem?_cons_succ] at c0 c1 c2 c3
 go_wp2_with fail
 refine (iw_num (r.bp) (HH.out.2.1) (bs ++ tx (r.cat)) w0 w1 (HI1.out.wr) (by have := HM.out; have := HL1.out; first | omega | (simp only [List.length_append]; omega))).mono ?_
 rintro e w2 ⟨rfl,i2,f2⟩
 have HI2 := Lib.hid (HI1.out.next i2 f2)
 have HF2 := Lib.hid (HF1.out.trans f2)
 have HL2 : Hid ((nm (r.bp)).length ≤ 1100) := Lib.hid (by exact Nat.le_trans (nm_10 _) (by omega))
 clear c0 c1 c2 c3 i2 f2
 have c0 := HI2.out.cell 0
 have c1 := HI2.out.cell 1
 have c2 := HI2.out.cell 2
 have c3 := HI2.out.cell 3
 simp only [List.getElem?_toArray,List.getElem?_cons_zero,List.getElem?_cons_succ] at c0 c1 c2 c3
 go_wp2_with fail
 refine (iw_num (r.net) (HH.out.2.2) ((bs ++ tx (r.cat)) ++ nm (r.bp)) w0 w2 (HI2.out.wr) (by have := HM.out; have := HL1.out; have := HL2.out; first | omega | (simp only [List.length_append]; omega))).mono ?_
 rintro e w3 ⟨rfl,i3,f3⟩
 have HI3 := Lib.hid (HI2.out.next i3 f3)
 have HF3 := Lib.hid (HF2.out.trans f3)
 have HL3 : Hid ((nm (r.net)).length ≤ 1100) := Lib.hid (by exact Nat.le_trans (nm_10 _) (by omega))
 clear c0 c1 c2 c3 i3 f3
 go_wp2_with fail
 go_end0
 refine ⟨rfl,?_,HF3.out⟩
 have h := HI3.out.wr
 unfold Im.partB
 simpa only [List.append_assoc] using h
set_option maxHeartbeats 1000000 in
theorem iw_session (r : Sn.T) (hh : Fit r.id ∧ Fit r.last ∧ Fit r.why ∧ Fit r.num ∧ Fit r.gross) (bs : List UInt8) (w0 w : World) (hW : IwE w0 w bs) (hm : bs.length ≤ 900000) :
  Calls Tryz.prog 42 #[.pointer (some ⟨w0.heap.size,0,none⟩),.agg #[.int .i64 r.id,.int .i64 r.last,.int .i64 r.why,.int .i64 r.num,.int .i64 r.gross]] w fun e w' => e = .returned (.tuple #[]) ∧ IwE w0 w' (bs ++ Im.sessB r) ∧ IwF w0 w w' := by
 have HM := Lib.hid hm
 have HH := Lib.hid hh
 obtain ⟨hI,hF⟩ := hW.boxed (.cells #[.int .i64 r.id,.int .i64 r.last,.int .i64 r.why,.int .i64 r.num,.int .i64 r.gross] 73)
 obtain ⟨U,hU⟩ : ∃ U,w.alloc (.cells #[.int .i64 r.id,.int .i64 r.last,.int .i64 r.why,.int .i64 r.num,.int .i64 r.gross] 73) = U := ⟨_,rfl⟩
 rw [hU] at hI hF
 have HI0 := Lib.hid hI
 have HF0 := Lib.hid hF
 obtain ⟨g,hg⟩ : ∃ g,w.heap.size = g := ⟨_,rfl⟩
 rw [hg] at HI0 hI
 have HG := Lib.hid hg
 have c0 := hI.cell 0
 have c1 := hI.cell 1
 have c2 := hI.cell 2
 have c3 := hI.cell 3
 have c4 := hI.cell 4
 simp only [List.getElem?_toArray,List.getElem?_cons_zero,List.getElem?_cons_succ] at c0 c1 c2 c3 c4
 clear hI hF hW hm hh
 skip
 go_enter Tryz.func42,Tryz.ntmps42
 go_wp2_with fail
 try rw [hU]
 try rw [hg]
 clear hU hg
 refine (iw_num (r.id) (HH.out.1) bs w0 U (HI0.out.wr) (by have := HM.out; first | omega | (simp only [List.length_append]; omega))).mono ?_
 rintro e w1 ⟨rfl,i1,f1⟩
 have HI1 := Lib.hid (HI0.out.next i1 f1)
 have HF1 := Lib.hid (HF0.out.trans f1)
 have HL1 : Hid ((nm (r.id)).length ≤ 1100) := Lib.hid (by exact Nat.le_trans (nm_10 _) (by omega))
 clear c0 c1 c2 c3 c4 i1 f1
 have c0 := HI1.out.cell 0
 have c1 := HI1.out.cell 1
 have c2 := HI1.out.cell 2
 have c3 := HI1.out.cell 3
 have c4 := HI1.out.cell 4
 simp only [List.getElem?_toArray,List.getElem?_cons_zero,List.getElem?_cons_succ] at c0 c1 c2 c3 c4
 go_wp2_with fail
 refine (iw_num (r.last) (HH.out.2.1) (bs ++ nm (r.id)) w0 w1 (HI1.out.wr) (by have := HM.out; have := HL1.out; first | omega | (simp only [List.length_append]; omega))).mono ?_
 rintro e w2 ⟨rfl,i2,f2⟩
 have HI2 := Lib.hid (HI1.out.next i2 f2)
 have HF2 := Lib.hid (HF1.out.trans f2)
 have HL2 : Hid ((nm (r.last)).length ≤ 1100) := Lib.hid (by exact Nat.le_trans (nm_10 _) (by omega))
 clear c0 c1 c2 c3 c4 i2 f2
 have c0 := HI2.out.cell 0
 have c1 := HI2.out.cell 1
 have c2 := HI2.out.cell 2
 have c3 := HI2.out.cell 3
 have c4 := HI2.out.cell 4
 simp only [List.getElem?_toArray,List.getElem?_cons_zero,List.getElem?_cons_succ] at c0 c1 c2 c3 c4
 go_wp2_with fail
 refine (iw_num (r.why) (HH.out.2.2.1) ((bs ++ nm (r.id)) ++ nm (r.last)) w0 w2 (HI2.out.wr) (by have := HM.out; have := HL1.out; have := HL2.out; first | omega | (simp only [List.length_append]; omega))).mono ?_
 rintro e w3 ⟨rfl,i3,f3⟩
 have HI3 := Lib.hid (HI2.out.next i3 f3)
 have HF3 := Lib.hid (HF2.out.trans f3)
 have HL3 : Hid ((nm (r.why)).length ≤ 1100) := Lib.hid (by exact Nat.le_trans (nm_10 _) (by omega))
 clear c0 c1 c2 c3 c4 i3 f3
 have c0 := HI3.out.cell 0
 have c1 := HI3.out.cell 1
 have c2 := HI3.out.cell 2
 have c3 := HI3.out.cell 3
 have c4 := HI3.out.cell 4
 simp only [List.getElem?_toArray,List.getElem?_cons_zero,List.getElem?_cons_succ] at c0 c1 c2 c3 c4
 go_wp2_with fail
 refine (iw_num (r.num) (HH.out.2.2.2.1) (((bs ++ nm (r.id)) ++ nm (r.last)) ++ nm (r.why)) w0 w3 (HI3.out.wr) (by have := HM.out; have := HL1.out; have := HL2.out; have := HL3.out; first | omega | (simp only [List.length_append]; omega))).mono ?_
 rintro e w4 ⟨rfl,i4,f4⟩
 have HI4 := Lib.hid (HI3.out.next i4 f4)
 have HF4 := Lib.hid (HF3.out.trans f4)
 have HL4 : Hid ((nm (r.num)).length ≤ 1100) := Lib.hid (by exact Nat.le_trans (nm_10 _) (by omega))
 clear c0 c1 c2 c3 c4 i4 f4
 have c0 := HI4.out.cell 0
 have c1 := HI4.out.cell 1
 have c2 := HI4.out.cell 2
 have c3 := HI4.out.cell 3
 have c4 := HI4.out.cell 4
 simp only [List.getElem?_toArray,List.getElem?_cons_zero,List.getElem?_cons_succ] at c0 c1 c2 c3 c4
 go_wp2_with fail
 refine (iw_num (r.gross) (HH.out.2.2.2.2) ((((bs ++ nm (r.id)) ++ nm (r.last)) ++ nm (r.why)) ++ nm (r.num)) w0 w4 (HI4.out.wr) (by have := HM.out; have := HL1.out; have := HL2.out; have := HL3.out; have := HL4.out; first | omega | (simp only [List.length_append]; omega))).mono ?_
 rintro e w5 ⟨rfl,i5,f5⟩
 have HI5 := Lib.hid (HI4.out.next i5 f5)
 have HF5 := Lib.hid (HF4.out.trans f5)
 have HL5 : Hid ((nm (r.gross)).length ≤ 1100) := Lib.hid (by exact Nat.le_trans (nm_10 _) (by omega))
 clear c0 c1 c2 c3 c4 i5 f5
 go_wp2_with fail
 go_end0
 refine ⟨rfl,?_,HF5.out⟩
 have h := HI5.out.wr
 unfold Im.sessB
 simpa only [List.append_assoc] using h
end Go.Proofs.YtillcleccjgocaaGreat
