import Derived.Test.YtjpfpojbalepeaaGreatZG3
import Derived.Test.YtjpfpojbalepeaaGreatZG4
import Derived.Test.YtjpfpojbalepeaaGreatZG5
import Derived.Test.YtjpfpojbalepeaaGreatZG6
import Derived.Test.YtjpfpojbalepeaaGreatZG7
import Derived.Test.YtjpfpojbalepeaaGreatZG8
import Derived.Test.YtjpfpojbalepeaaGreatZG9
import Derived.Test.YtjpfpojbalepeaaGreatZG11
set_option maxRecDepth 100000
set_option linter.unusedVariables false
namespace Go.Proofs.YtjpfpojbalepeaaGreat
open Go.RowKit
open Mem
open Go.Sort (grow)
section
variable {ops : Array Oper} {o : Oper} {a : Act} {S : World → Prop} {t : Tmp} {g : Nat}
theorem Bl.y_post (hgd : o.guard = none) (ho : o.op = .fieldAddr 42 (.tmp t) 2) (hp : a.tmps.toList[t]? = some (.pointer (some ⟨g,0,none⟩))) : YieldsIf Tryz.prog ops S o (.pointer (some ⟨g,2,none⟩)) a := by
 refine .inl ⟨by simp [Region.wanted,hgd],fun u _ => ?_⟩
 simp only [execOp,ho,Ca.evT hp]
 simp [go_sem]
theorem Bl.y_cday (hgd : o.guard = none) (ho : o.op = .fieldAddr 30 (.tmp t) 4) (hp : a.tmps.toList[t]? = some (.pointer (some ⟨g,0,none⟩))) : YieldsIf Tryz.prog ops S o (.pointer (some ⟨g,8,none⟩)) a := by
 refine .inl ⟨by simp [Region.wanted,hgd],fun u _ => ?_⟩
 simp only [execOp,ho,Ca.evT hp]
 simp [go_sem]
theorem Bl.y_pds {k : Nat} {ao : Option Addr} {n c : Nat} (hgd : o.guard = none) (ho : o.op = .load 38 (.tmp t)) (hp : a.tmps.toList[t]? = some (.pointer (some ⟨g,k,none⟩))) (hS : ∀ u,S u → u.cell? ⟨g,k,none⟩ = some (.slice ao n c)) : YieldsIf Tryz.prog ops S o (.slice ao n c) a := by
 refine .inl ⟨by simp [Region.wanted,hgd],fun u hu => ?_⟩
 have h := hS u hu
 simp only [execOp,ho,Ca.evT hp]
 simp [go_sem,h]
theorem Bl.y_date {k : Nat} {y m d : Int} (hgd : o.guard = none) (ho : o.op = .load 23 (.tmp t)) (hp : a.tmps.toList[t]? = some (.pointer (some ⟨g,k,none⟩))) (hS : ∀ u,S u → u.cell? ⟨g,k,none⟩ = some (.int .i64 y) ∧ u.cell? ⟨g,k + 1,none⟩ = some (.int .i64 m) ∧ u.cell? ⟨g,k + 2,none⟩ = some (.int .i64 d)) : YieldsIf Tryz.prog ops S o (dayV y m d) a := by
 refine .inl ⟨by simp [Region.wanted,hgd],fun u hu => ?_⟩
 obtain ⟨h0,h1,h2⟩ := hS u hu
 simp only [execOp,ho,Ca.evT hp]
 simp [go_sem,h0,h1,h2,dayV]
theorem Bl.y_row {b off : Nat} {r : Pd.T} (hgd : o.guard = none) (ho : o.op = .load 66 (.tmp t)) (hp : a.tmps.toList[t]? = some (.pointer (some ⟨b,off,none⟩))) (hS : ∀ u,S u → Pd.At u b off r) : YieldsIf Tryz.prog ops S o (Pd.val r) a := by
 refine .inl ⟨by simp [Region.wanted,hgd],fun u hu => ?_⟩
 have e := Pd.run_load (hS u hu)
 simp only [execOp,ho,Ca.evT hp,Sem.run_bind,e,Result.andThen_ok]
 rfl
theorem Bl.y_idx {t2 : Tmp} {b off n c k : Nat} (hk : k < n) (hn : n ≤ 9223372036854775807) (hgd : o.guard = none) (ho : o.op = .indexAddr 38 (.tmp t) (.tmp t2)) (hp : a.tmps.toList[t]? = some (.slice (some ⟨b,off,none⟩) n c)) (hp2 : a.tmps.toList[t2]? = some (.int .i64 k)) : YieldsIf Tryz.prog ops S o (.pointer (some ⟨b,off + k * 12,none⟩)) a := by
 refine .inl ⟨by simp [Region.wanted,hgd],fun u _ => ?_⟩
 simp only [execOp,ho,Ca.evT hp,Ca.evT hp2]
 simp [go_sem]
 omega
end
theorem Pd.At.of {u v : World} {b o : Nat} {r : Pd.T} (h : Pd.At u b o r) (e : v.heap[b]? = u.heap[b]?) : Pd.At v b o r := by
 have k : ∀ j,v.cell? ⟨b,j,none⟩ = u.cell? ⟨b,j,none⟩ := fun j => World.cell?_of_block e
 exact ⟨(k _).trans h.c0,(k _).trans h.c1,(k _).trans h.c2,(k _).trans h.c3,(k _).trans h.c4,(k _).trans h.c5,(k _).trans h.c6,(k _).trans h.c7,(k _).trans h.c8,(k _).trans h.c9,(k _).trans h.c10,(k _).trans h.c11⟩
theorem Pd.C.of {u v : World} {b : Nat} {r : Pd.T} (h : Pd.C u b r) (e : v.heap[b]? = u.heap[b]?) : Pd.C v b r := by
 have k : ∀ j,v.cell? ⟨b,j,none⟩ = u.cell? ⟨b,j,none⟩ := fun j => World.cell?_of_block e
 unfold Pd.C at h ⊢
 obtain ⟨h0,h1,h2,h3,h4,h5,h6,h7,h8,h9,h10,h11⟩ := h
 exact ⟨(k _).trans h0,(k _).trans h1,(k _).trans h2,(k _).trans h3,(k _).trans h4,(k _).trans h5,(k _).trans h6,(k _).trans h7,(k _).trans h8,(k _).trans h9,(k _).trans h10,(k _).trans h11⟩
theorem Pd.C.at {u : World} {b : Nat} {r : Pd.T} (h : Pd.C u b r) : Pd.At u b 0 r := by
 unfold Pd.C at h
 obtain ⟨h0,h1,h2,h3,h4,h5,h6,h7,h8,h9,h10,h11⟩ := h
 exact ⟨h0,h1,h2,h3,h4,h5,h6,h7,h8,h9,h10,h11⟩
theorem Pd.At.lt {u : World} {b o : Nat} {r : Pd.T} (h : Pd.At u b o r) : b < u.heap.size := cell_lt h.c0
theorem Bl.Fr.other {w wr : World} {gs gr b : Nat} (h : Bl.Fr w wr gs gr) (hl : w.heap.size ≤ b) (hn : b ≠ gs ∧ b ≠ gr) (vs : Array Value) : Bl.Fr w (wr.setRow b vs) gs gr := ⟨below_setRow h.bel hl _,h.lo,h.nxt,h.st.other (Ne.symm hn.1) _,h.rp.other (Ne.symm hn.2) _⟩
def Bl.markS (s : Bl.St) (k : Nat) : Bl.St := ⟨s.tab,s.ser,Bl.mark s.post k,s.book,s.sess,s.next⟩
def Bl.credP (s : Bl.St) (c : Bl.Cm) : Bl.Ps := ⟨c.ser,0,c.y,c.m,c.d,Bl.undoT (Bl.old s c) c.y c.m c.d,c.ofS,c.ofN,false⟩
def Bl.credM (s : Bl.St) (c : Bl.Cm) : Bl.St := Bl.markS s (Bl.pix c.ofS c.ofN s.post)
def Bl.credS (s : Bl.St) (c : Bl.Cm) : Bl.St := if s.post.length ≤ Bl.pix c.ofS c.ofN s.post then s else if Bl.undoE (Bl.old s c) c.y c.m c.d ≠ 0 then s else if (Bl.issR (Bl.credM s c) (Bl.credP s c)).why ≠ 0 then s else Bl.issS (Bl.credM s c) (Bl.credP s c)
def Bl.credR (s : Bl.St) (c : Bl.Cm) : Rp.T := if s.post.length ≤ Bl.pix c.ofS c.ofN s.post then ⟨11,0,0⟩ else if Bl.undoE (Bl.old s c) c.y c.m c.d ≠ 0 then ⟨Bl.undoE (Bl.old s c) c.y c.m c.d,0,0⟩ else Bl.issR (Bl.credM s c) (Bl.credP s c)
theorem Bl.cred_none {s : Bl.St} {c : Bl.Cm} (h : s.post.length ≤ Bl.pix c.ofS c.ofN s.post) : Bl.credS s c = s ∧ Bl.credR s c = ⟨11,0,0⟩ := ⟨if_pos h,if_pos h⟩
theorem Bl.cred_undo {s : Bl.St} {c : Bl.Cm} (h : ¬ s.post.length ≤ Bl.pix c.ofS c.ofN s.post) (k : Bl.undoE (Bl.old s c) c.y c.m c.d ≠ 0) : Bl.credS s c = s ∧ Bl.credR s c = ⟨Bl.undoE (Bl.old s c) c.y c.m c.d,0,0⟩ := by
 unfold Bl.credS Bl.credR
 rw [if_neg h,if_neg h,if_pos k,if_pos k]
 exact ⟨rfl,rfl⟩
theorem Bl.cred_bad {s : Bl.St} {c : Bl.Cm} (h : ¬ s.post.length ≤ Bl.pix c.ofS c.ofN s.post) (k : ¬ Bl.undoE (Bl.old s c) c.y c.m c.d ≠ 0) (m : (Bl.issR (Bl.credM s c) (Bl.credP s c)).why ≠ 0) : Bl.credS s c = s ∧ Bl.credR s c = Bl.issR (Bl.credM s c) (Bl.credP s c) := by
 unfold Bl.credS Bl.credR
 rw [if_neg h,if_neg h,if_neg k,if_neg k,if_pos m]
 exact ⟨rfl,rfl⟩
theorem Bl.cred_ok {s : Bl.St} {c : Bl.Cm} (h : ¬ s.post.length ≤ Bl.pix c.ofS c.ofN s.post) (k : ¬ Bl.undoE (Bl.old s c) c.y c.m c.d ≠ 0) (m : ¬ (Bl.issR (Bl.credM s c) (Bl.credP s c)).why ≠ 0) : Bl.credS s c = Bl.issS (Bl.credM s c) (Bl.credP s c) ∧ Bl.credR s c = Bl.issR (Bl.credM s c) (Bl.credP s c) := by
 unfold Bl.credS Bl.credR
 rw [if_neg h,if_neg h,if_neg k,if_neg k,if_neg m]
 exact ⟨rfl,rfl⟩
theorem Bl.undo_parts {p : Bl.Ps} {y m d : Int} (hR : Bl.TotR p.tot) (hs : ∀ x ∈ p.tot.parts,Pt.Short x) : (∀ x ∈ (Bl.undoT p y m d).parts,Pt.Short x) ∧ (Bl.undoT p y m d).parts.length ≤ 12 ∧ (∀ x ∈ (Bl.undoT p y m d).parts,x.cat.size ≤ 140737488351232) ∧ Fit (Bl.undoT p y m d).net ∧ Fit (Bl.undoT p y m d).tax ∧ Fit (Bl.undoT p y m d).gross := by
 by_cases h : Bl.undoE p y m d = 0
 ·
  have e : Bl.undoT p y m d = Iv.back p.tot := if_pos h
  have hb : Iv.backE p.tot = 0 := by
   unfold Bl.undoE at h
   split at h
   · omega
   ·
    split at h
    · omega
    · exact h
  have hr := Bl.back_right hR hb
  rw [e]
  refine ⟨?_,hr.few,hr.small,hr.fit.1,hr.fit.2.1,hr.fit.2.2⟩
  intro x hx
  obtain ⟨z,hz,rfl⟩ := List.mem_map.1 (show x ∈ p.tot.parts.map Iv.negP from hx)
  have hsz := hs z hz
  have h1 := (hr.each _ hx)
  have hbad : Iv.badP z = false := by
   unfold Iv.backE at hb
   split at hb
   · omega
   ·
    split at hb
    · omega
    ·
     rename_i q
     cases hq : Iv.badP z
     · rfl
     · exact absurd (List.any_eq_true.2 ⟨z,hz,hq⟩) q
  unfold Iv.badP at hbad
  have hb2 := of_decide_eq_false hbad
  have e1 : Mn.err (-z.net) = 0 := Decidable.byContradiction fun q => hb2 (.inl q)
  have e2 : Mn.err (-z.tax) = 0 := Decidable.byContradiction fun q => hb2 (.inr q)
  exact ⟨hsz.1,hsz.2.1,Iv.err_0 e1,Iv.err_0 e2⟩
 ·
  have e : Bl.undoT p y m d = Iv.Tot.zero := if_neg h
  rw [e]
  exact ⟨fun x hx => (by cases hx),Nat.zero_le _,fun x hx => (by cases hx),Bl.fit_0,Bl.fit_0,Bl.fit_0⟩
set_option maxHeartbeats 600000 in
theorem bil_credit (P0 : Nat → Prop) (s : Bl.St) (h : Bl.Sv) (r : Ca.T) (c : Bl.Cm) (w : World) (hL : Bl.Lp P0 w h s) (hI : Bl.IsM w r c) (hS : Ca.Short r) (hR : Bl.Right s) :
  Calls Tryz.prog 106 #[h.val,Ca.cmdV r] w (Bl.OutE P0 w (Bl.credS s c) (Bl.credR s c)) := by
 have HL := Lib.hid hL
 have HI := Lib.hid hI
 have HSh := Lib.hid hS
 have HR := Lib.hid hR
 obtain ⟨rs,hP,hE,hpi⟩ := hL.post
 have HLen := Lib.hid (And.intro hP.len hE.len)
 have hreach := hP.reach
 have hfits := hP.fits
 have HPs := Lib.hid hP
 have HEs := Lib.hid hE
 have hpx := Bl.pix_le c.ofS c.ofN s.post
 obtain ⟨U,hU,hA,hF,hBk⟩ := Bl.fr4 w h (Ca.cmdB r)
 have c12 : U.cell? ⟨w.heap.size + 1,12,none⟩ = some (.string r.ofS) := by rw [cell_of_row U _ 12 _ _ _ hBk]; rfl
 have c13 : U.cell? ⟨w.heap.size + 1,13,none⟩ = some (.int .i64 r.ofN) := by rw [cell_of_row U _ 13 _ _ _ hBk]; rfl
 have HA := Lib.hid hA
 have HF := Lib.hid hF
 have HBk := Lib.hid hBk
 have HUs : Hid (w.heap.size + 1 + 1 + 1 < U.heap.size) := Lib.hid hF.rp.lt
 obtain ⟨x0,x1,x2,x3,x4,x5⟩ := hA.cells
 clear hL hI hS hR hA hF hBk hP hE hpi
 unfold Bl.Sv.val Bl.sl Ca.cmdV
 unfold Ca.cmdB at hU
 go_enter Tryz.func106,Tryz.ntmps106
 go_wp2_with fail
 clear hU
 refine Calls.mono (R := fun e w' => e = .returned (.int .i64 (Bl.pix c.ofS c.ofN s.post : Nat)) ∧ Below U.heap.size U w') ?_ ?_
 ·
  rw [HI.out.ofS,HI.out.ofN]
  exact bil_index s.post rs c.ofS c.ofN h.post.ao h.post.n h.post.cap U U (Below.refl _ _) (HPs.out.below HF.out.bel) (HEs.out.below HF.out.bel)
 rintro e w1 ⟨rfl,b1⟩
 have hA1 := HA.out.below b1
 have HA1 := Lib.hid hA1
 have HF1 := Lib.hid (HF.out.below b1)
 have HBk1 := Lib.hid ((b1.block _ (by have := HUs.out; omega)).trans HBk.out)
 have HU1 := Lib.hid b1.size
 clear b1 x0 x1 x2 x3 x4 x5 c12 c13
 obtain ⟨y0,y1,y2,y3,y4,y5⟩ := hA1.cells
 clear hA1
 have HNo := Lib.hid (Bl.cred_none (s := s) (c := c))
 have HUn := Lib.hid (Bl.cred_undo (s := s) (c := c))
 have HBa := Lib.hid (Bl.cred_bad (s := s) (c := c))
 have HOk := Lib.hid (Bl.cred_ok (s := s) (c := c))
 have HOld := Lib.hid (Bl.old_at (s := s) (c := c))
 obtain ⟨M,hM⟩ : ∃ M,Bl.credM s c = M := ⟨_,rfl⟩
 have HM : Hid (M = Bl.markS s (Bl.pix c.ofS c.ofN s.post)) := Lib.hid hM.symm
 rw [hM] at HBa HOk
 clear hM
 obtain ⟨k,hk⟩ : ∃ k,Bl.pix c.ofS c.ofN s.post = k := ⟨_,rfl⟩
 rw [hk] at hpx HNo HUn HBa HOk HM HOld ⊢
 clear hk
 have hpl := HLen.out.1
 have hel := HLen.out.2
 by_cases hkn : k = h.post.n
 ·
  have qk : ((k : Int) == (h.post.n : Int)) = true := beq_iff_eq.2 (by omega)
  have HP := Lib.hid (HNo.out (by omega))
  clear hkn hpx hpl hel
  go_wp2_with fail
  refine Bl.wp_refuseC (w.heap.size) (w.heap.size + 1 + 1) (w.heap.size + 1 + 1 + 1) h Bl.zsv ⟨0,0,0⟩ (11) HA1.out HF1.out.st HF1.out.rp (by omega) rfl rfl rfl rfl rfl rfl rfl rfl rfl rfl ?_ ?_ ?_ ?_ ?_ ?_ ?_ ?_ ?_
  · kernel_rfl
  · exact fun _ _ _ h => h
  · rfl
  · rfl
  · rfl
  · rfl
  · rfl
  · rfl
  intro w9 b9
  go_wp2_with fail
  exact (HF1.out.below b9).ret Tryz.results106 h ⟨11,0,0⟩ rfl rfl rfl fun b => by rw [HP.out.1,HP.out.2]; exact ⟨_,rfl,(HL.out.below b).wide w,b⟩
 ·
  have qk : ((k : Int) == (h.post.n : Int)) = false := beq_eq_false_iff_ne.2 (by omega)
  have hkp : k < s.post.length := by omega
  have hkr : k < rs.length := by omega
  have hkl : k < h.post.n := by omega
  have HNk : Hid (¬ s.post.length ≤ k) := Lib.hid (by omega)
  have HPn : Hid (h.post.n = s.post.length) := Lib.hid (by omega)
  obtain ⟨pb,poff,hpo⟩ := HPs.out.at (by omega)
  have hrow := (HPs.out.below (w := w) (v := w)  (Below.refl _ _))
  rw [hpo] at hrow
  have HRw := Lib.hid (hrow.row k hkr)
  have HIk := Lib.hid (HEs.out.each k hkr)
  have HShk := Lib.hid (HPs.out.short _ (List.getElem_mem hkr))
  have hold : Bl.old s c = s.post[k] := HOld.out hkp
  have HTk := Lib.hid (HR.out.tot _ (List.getElem_mem hkp))
  have HDk := Lib.hid (HR.out.day _ (List.getElem_mem hkp))
  obtain ⟨pr,hpr⟩ : ∃ pr,rs[k] = pr := ⟨_,rfl⟩
  obtain ⟨po,hpo2⟩ : ∃ po,s.post[k] = po := ⟨_,rfl⟩
  rw [hpr] at HRw HIk HShk
  rw [hpo2] at HIk HTk HDk hold
  have HUp := Lib.hid (Bl.undo_parts (y := c.y) (m := c.m) (d := c.d) HTk.out HIk.out.parts.short)
  have HCp : Hid (Bl.credP s c = ⟨c.ser,0,c.y,c.m,c.d,Bl.undoT po c.y c.m c.d,c.ofS,c.ofN,false⟩) := Lib.hid (by rw [← hold]; rfl)
  rw [hold] at HUn HBa HOk
  clear hpr hpo2 hold hrow
  have HPo := Lib.hid hpo
  clear hkn hpx hpl hel HNo HOld hpo
  go_wp2_with fail
  refine Bl.wp_undo (S := fun u => Bl.At u w.heap.size h ∧ u.heap[w.heap.size + 1]? = some (Ca.cmdB r) ∧ Pd.At u pb (poff + k * 12) pr)
   (J := fun X N T G sl E u => E = Bl.undoE po c.y c.m c.d ∧ N = (Bl.undoT po c.y c.m c.d).net ∧ T = (Bl.undoT po c.y c.m c.d).tax ∧ G = (Bl.undoT po c.y c.m c.d).gross ∧ Pt.Ls u sl.ao sl.n sl.cap (Bl.undoT po c.y c.m c.d).parts ∧ InP (fun b => w1.heap.size ≤ b ∧ b ∉ X) sl.ao sl.n)
   (.pointer (some ⟨w.heap.size,2,none⟩)) (.slice (some ⟨pb,poff,none⟩) h.post.n h.post.cap) (.int .i64 k) (.pointer (some ⟨pb,poff + k * 12,none⟩)) (Pd.val pr) (.pointer (some ⟨w.heap.size + 1,8,none⟩)) (dayV r.y r.m r.d) rfl ?_ ?_ ?_ rfl rfl rfl rfl rfl rfl rfl rfl rfl rfl rfl rfl rfl rfl rfl rfl rfl rfl rfl rfl ?_ ?_ ?_ ?_ ?_ ?_ ?_ ?_ rfl Tryz.func143 (by kernel_rfl) rfl rfl rfl rfl rfl rfl rfl rfl ?_ ?_ ?_
  ·
   intro u hb
   exact ⟨HA1.out.below hb,(hb.block _ (by have := HUs.out; have := HU1.out; omega)).trans HBk1.out,((HRw.out.below HF1.out.bel).below hb)⟩
  ·
   intro u b vs hb hu
   refine ⟨hu.1.other (by have := HUs.out; have := HU1.out; omega) _,(setRow_other u b _ _ (by have := HUs.out; have := HU1.out; omega)).trans hu.2.1,hu.2.2.of (setRow_other u b _ _ (by have := (HRw.out.below HF1.out.bel).lt; omega))⟩
  · kernel_rfl
  · exact Bl.y_post (t := 2) rfl rfl (by kernel_rfl)
  · exact Bl.y_pds (t := 25) rfl rfl (by kernel_rfl) fun u hu => by rw [← HPo.out]; exact hu.1.cells.2.2.1
  · exact Bl.y_move (t := 6) rfl rfl (by kernel_rfl)
  · exact Bl.y_idx (t := 26) (t2 := 27) (c := h.post.cap) hkl (by omega) rfl rfl (by kernel_rfl) (by kernel_rfl)
  · exact Bl.y_row (t := 28) rfl rfl (by kernel_rfl) fun u hu => hu.2.2
  · exact Bl.y_cday (t := 3) rfl rfl (by kernel_rfl)
  · exact Bl.y_date (t := 30) rfl rfl (by kernel_rfl) fun u hu => ⟨by rw [cell_of_row u _ 8 _ _ _ hu.2.1]; rfl,by rw [cell_of_row u _ 9 _ _ _ hu.2.1]; rfl,by rw [cell_of_row u _ 10 _ _ _ hu.2.1]; rfl⟩
  · exact fun _ _ _ _ _ h => h
  ·
   intro X u hb hX
   rw [HI.out.y,HI.out.m,HI.out.d]
   refine (bil_undo pr po c.y c.m c.d u ((HIk.out.below HF1.out.bel).below hb) HShk.out (HI.out.y ▸ HSh.out.2.2.2.2.2.2.2.2.2.2.1) (HI.out.m ▸ HSh.out.2.2.2.2.2.2.2.2.2.2.2.1) (HI.out.d ▸ HSh.out.2.2.2.2.2.2.2.2.2.2.2.2.1) HDk.out (by have := HIk.out.parts.len; have := HTk.out.few; omega)).mono ?_
   rintro e u' ⟨v,rfl,o,bb⟩
   obtain ⟨vo,vc,rfl,lv,iv⟩ := Pt.own_ls o HUp.out.1
   refine ⟨_,_,_,⟨vo,(Bl.undoT po c.y c.m c.d).parts.length,vc⟩,_,rfl,⟨rfl,rfl,rfl,rfl,lv,?_⟩,bb⟩
   intro hn b off e
   have := inA_own iv hn b off e
   exact ⟨by have := hb.size; omega,fun hx => by have := (hX b hx).2; omega⟩
  ·
   rintro X N T G sl E u o ⟨j1,j2,j3,j4,j5,j6⟩
   refine ⟨j1,j2,j3,j4,j5.below ((Below.refl _ _).alloc (Nat.le_refl _) _),?_⟩
   intro hn b off e
   have q1 := j6 hn b off e
   have q2 := j5.inp hn b off e
   exact ⟨q1.1,fun hx => (List.mem_cons.1 hx).elim (fun z => by omega) q1.2⟩
  ·
   rintro X N T G sl E u gt hb ⟨j1,j2,j3,j4,j5,j6⟩ hgX hgt D
   have hnn : gt ≠ w.heap.size ∧ gt ≠ w.heap.size + 1 ∧ gt ≠ w.heap.size + 1 + 1 ∧ gt ≠ w.heap.size + 1 + 1 + 1 := by have := HUs.out; have := HU1.out; omega
   have hA2 := (HA1.out.below hb).other (b := gt) (by omega) #[.int .i64 N,.int .i64 T,.int .i64 G,.slice sl.ao sl.n sl.cap]
   have hF2 := (HF1.out.below hb).other (b := gt) (by have := HUs.out; have := HU1.out; omega) (by omega) #[.int .i64 N,.int .i64 T,.int .i64 G,.slice sl.ao sl.n sl.cap]
   have hBk2 := (setRow_other u gt (w.heap.size + 1) #[.int .i64 N,.int .i64 T,.int .i64 G,.slice sl.ao sl.n sl.cap] (by omega)).trans ((hb.block _ (by have := HUs.out; have := HU1.out; omega)).trans HBk1.out)
   have hT2 := D.lay N T G (.slice sl.ao sl.n sl.cap)
   have hPt := j5.kpP j6 (KpP.row u (fun q => q.2 hgX) #[.int .i64 N,.int .i64 T,.int .i64 G,.slice sl.ao sl.n sl.cap])
   have hb2 : Below w1.heap.size w1 (u.setRow gt #[.int .i64 N,.int .i64 T,.int .i64 G,.slice sl.ao sl.n sl.cap]) := below_setRow hb hgt _
   obtain ⟨W2,hW2⟩ : ∃ W2,Tt.lay u gt N T G (.slice sl.ao sl.n sl.cap) = W2 := ⟨_,rfl⟩
   have hW2' : u.setRow gt #[.int .i64 N,.int .i64 T,.int .i64 G,.slice sl.ao sl.n sl.cap] = W2 := hW2
   rw [hW2'] at hA2 hF2 hBk2 hPt hb2
   rw [hW2] at hT2 ⊢
   clear hW2 hW2'
   have HA2 := Lib.hid hA2
   have HF2 := Lib.hid hF2
   have HBk2 := Lib.hid hBk2
   have HPt := Lib.hid hPt
   have HPi : Hid (InP (fun b => w1.heap.size ≤ b) sl.ao sl.n) := Lib.hid (j6.mono fun _ q => q.1)
   have HB2 := Lib.hid hb2
   have HJ := Lib.hid (And.intro j2 (And.intro j3 j4))
   have HJe := Lib.hid j1
   clear hb j1 j2 j3 j4 j5 j6 hgX hF2 hPt hb2 hgt D y0 y1 y2 y3 y4 y5
   by_cases hE0 : E = 0
   ·
    subst hE0
    have HKe : Hid (¬ Bl.undoE po c.y c.m c.d ≠ 0) := Lib.hid (by rw [← HJe.out]; simp)
    have d1 : W2.cell? ⟨w.heap.size + 1,1,none⟩ = some (.string r.ser) := by rw [cell_of_row W2 _ 1 _ _ _ hBk2]; rfl
    have d8 : W2.cell? ⟨w.heap.size + 1,8,none⟩ = some (.int .i64 r.y) := by rw [cell_of_row W2 _ 8 _ _ _ hBk2]; rfl
    have d9 : W2.cell? ⟨w.heap.size + 1,9,none⟩ = some (.int .i64 r.m) := by rw [cell_of_row W2 _ 9 _ _ _ hBk2]; rfl
    have d10 : W2.cell? ⟨w.heap.size + 1,10,none⟩ = some (.int .i64 r.d) := by rw [cell_of_row W2 _ 10 _ _ _ hBk2]; rfl
    have d12 : W2.cell? ⟨w.heap.size + 1,12,none⟩ = some (.string r.ofS) := by rw [cell_of_row W2 _ 12 _ _ _ hBk2]; rfl
    have d13 : W2.cell? ⟨w.heap.size + 1,13,none⟩ = some (.int .i64 r.ofN) := by rw [cell_of_row W2 _ 13 _ _ _ hBk2]; rfl
    go_wp2_with (first | ((with_reducible apply Tt.wpl_load hT2); rfl; rfl; rfl) | ((with_reducible apply Pd.wpl_store (r := ⟨r.ser,0,r.y,r.m,r.d,N,T,G,sl,r.ofS,r.ofN,false⟩) (g := W2.heap.size)); rfl; rfl; rfl; rfl; rfl; rfl))
    have hC3 := Pd.c_box W2 ⟨r.ser,0,r.y,r.m,r.d,N,T,G,sl,r.ofS,r.ofN,false⟩
    have hb3 := Pd.below_own W2 ⟨r.ser,0,r.y,r.m,r.d,N,T,G,sl,r.ofS,r.ofN,false⟩
    have hsz3 := Pd.box_size W2 ⟨r.ser,0,r.y,r.m,r.d,N,T,G,sl,r.ofS,r.ofN,false⟩
    obtain ⟨W3,hW3⟩ : ∃ W3,Pd.box W2 ⟨r.ser,0,r.y,r.m,r.d,N,T,G,sl,r.ofS,r.ofN,false⟩ = W3 := ⟨_,rfl⟩
    rw [hW3] at hC3 hb3 hsz3 ⊢
    clear hW3 hA2 hBk2 hT2 d1 d8 d9 d10 d12 d13
    have HA3 := Lib.hid (HA2.out.below hb3)
    have HF3 := Lib.hid (HF2.out.below hb3)
    have HC3 := Lib.hid hC3
    have HB3 := Lib.hid (bchain HF1.out.bel (bchain HB2.out hb3))
    have HPt3 := Lib.hid (HPt.out.below hb3)
    have HSz : Hid (w.heap.size + 1 + 1 + 1 < U.heap.size ∧ U.heap.size ≤ w1.heap.size ∧ w1.heap.size ≤ W2.heap.size ∧ W3.heap.size = W2.heap.size + 1) := Lib.hid ⟨HUs.out,HU1.out,HB2.out.size,hsz3⟩
    clear hC3 hb3 hsz3
    obtain ⟨C,hC⟩ : ∃ C,Bl.credP s c = C := ⟨_,rfl⟩
    rw [hC] at HCp HBa HOk
    clear hC
    have hIs : ∀ u,Below W3.heap.size W3 u → Bl.IsP u ⟨r.ser,0,r.y,r.m,r.d,N,T,G,sl,r.ofS,r.ofN,false⟩ C := by
     intro u hb
     rw [HCp.out]
     exact ⟨HI.out.ser,rfl,HI.out.y,HI.out.m,HI.out.d,HJ.out.1,HJ.out.2.1,HJ.out.2.2,HPt3.out.below hb,HI.out.ofS,HI.out.ofN,rfl⟩
    have HIs := Lib.hid hIs
    have HPr : Hid (Pd.Short ⟨r.ser,0,r.y,r.m,r.d,N,T,G,sl,r.ofS,r.ofN,false⟩) := Lib.hid ⟨HSh.out.2.2.2.1,Bl.fit_0,HSh.out.2.2.2.2.2.2.2.2.2.2.1,HSh.out.2.2.2.2.2.2.2.2.2.2.2.1,HSh.out.2.2.2.2.2.2.2.2.2.2.2.2.1,by show Fit N; rw [HJ.out.1]; exact HUp.out.2.2.2.1,by show Fit T; rw [HJ.out.2.1]; exact HUp.out.2.2.2.2.1,by show Fit G; rw [HJ.out.2.2]; exact HUp.out.2.2.2.2.2,HSh.out.2.2.2.2.2.2.2.2.2.2.2.2.2.1,HSh.out.2.2.2.2.2.2.2.2.2.2.2.2.2.2.1⟩
    clear hIs
    refine Bl.wp_twice (S := fun u => Bl.At u w.heap.size h ∧ Pd.C u W2.heap.size ⟨r.ser,0,r.y,r.m,r.d,N,T,G,sl,r.ofS,r.ofN,false⟩)
     (J0 := fun _ _ => True)
     (J1 := fun X hm u => Bl.Lp (fun b => ((P0 b ∧ b < w.heap.size) ∨ U.heap.size ≤ b) ∧ b ∉ X) u hm M)
     (J2 := fun X h' q u => q = Bl.issR M C ∧ Bl.Lp (fun b => ((P0 b ∧ b < w.heap.size) ∨ U.heap.size ≤ b) ∧ b ∉ X) u h' (Bl.issS M C))
     h.val (.int .i64 k) (Pd.val ⟨r.ser,0,r.y,r.m,r.d,N,T,G,sl,r.ofS,r.ofN,false⟩) rfl ?_ ?_ trivial ?_ rfl rfl rfl rfl rfl rfl rfl rfl rfl rfl rfl rfl rfl rfl rfl rfl rfl rfl rfl ?_ ?_ ?_ ?_ rfl rfl Tryz.func144 (by kernel_rfl) rfl Tryz.func142 (by kernel_rfl) rfl rfl rfl rfl rfl rfl rfl rfl rfl rfl ?_ ?_ ?_ ?_ ?_ ?_
    ·
     intro u hb
     exact ⟨HA3.out.below hb,HC3.out.below hb⟩
    ·
     intro u b vs hb hu
     exact ⟨hu.1.other (by have := HSz.out; omega) _,hu.2.of (setRow_other u b _ _ (by have := HSz.out; omega))⟩
    · kernel_rfl
    · exact Bl.y_load (t := 2) rfl rfl (by kernel_rfl) fun u hu => hu.1
    · exact Bl.y_move (t := 6) rfl rfl (by kernel_rfl)
    · exact Bl.y_row (t := 9) rfl rfl (by kernel_rfl) fun u hu => hu.2.at
    · exact fun _ _ _ _ _ h => h
    ·
     intro X u hb hX _
     refine (bil_mark (fun b => P0 b ∧ b < w.heap.size) s h k u ((HL.out.lt.below HB3.out).below hb) hkp (by have := HPn.out; have := HR.out.few; omega)).mono ?_
     rintro e u' ⟨hm,rfl,hl,bb⟩
     refine ⟨hm,rfl,?_,bb⟩
     rw [HM.out]
     refine hl.mono fun b q => q.elim (fun z => ⟨.inl z,fun hx => by have := (hX b hx).1; have := HSz.out; omega⟩) (fun z => ⟨.inr (by have := hb.size; have := HSz.out; omega),fun hx => by have := (hX b hx).2; omega⟩)
    ·
     intro X hm u hb hX hl
     refine (bil_issue (fun b => ((P0 b ∧ b < w.heap.size) ∨ U.heap.size ≤ b) ∧ b ∉ X) M hm ⟨r.ser,0,r.y,r.m,r.d,N,T,G,sl,r.ofS,r.ofN,false⟩ C u hl ?_ (HIs.out u hb) HPr.out ?_ ?_ ?_ ?_).mono ?_
     ·
      intro hn b off e
      have q1 := HPi.out hn b off e
      have q2 := HPt3.out.inp hn b off e
      exact ⟨.inr (by have := HSz.out; omega),fun hx => by have := (hX b hx).1; omega⟩
     ·
      show sl.n ≤ 100
      have := HPt.out.len
      have := HUp.out.2.1
      omega
     ·
      rw [HCp.out]
      exact HUp.out.2.2.1
     ·
      rw [HM.out]
      show (Bl.mark s.post k).length ≤ 40
      rw [Bl.mark_len]
      exact HR.out.few
     ·
      rw [HM.out]
      exact HR.out.book_len
     ·
      rintro e u' ⟨h',rfl,hl',bb⟩
      refine ⟨h',_,rfl,⟨rfl,?_⟩,bb⟩
      exact hl'.mono fun b q => q.elim id (fun z => ⟨.inr (by have := hb.size; have := HSz.out; omega),fun hx => by have := (hX b hx).2; omega⟩)
    · exact fun _ _ _ _ => trivial
    ·
     intro X hm u o hl
     exact (hl.lt.below ((Below.refl _ _).alloc (Nat.le_refl _) _)).mono fun b q => ⟨q.1.1,fun hx => (List.mem_cons.1 hx).elim (fun z => by have := q.2; omega) q.1.2⟩
    ·
     rintro X h' q u o ⟨hq,hl⟩
     exact ⟨hq,(hl.lt.below ((Below.refl _ _).alloc (Nat.le_refl _) _)).mono fun b q => ⟨q.1.1,fun hx => (List.mem_cons.1 hx).elim (fun z => by have := q.2; omega) q.1.2⟩⟩
    ·
     rintro X hm h' q u g10 g11 hb ⟨hq,hl⟩ hx10 hx11 hne hl10 hl11 D E
     have hnn : g10 ≠ w.heap.size ∧ g11 ≠ w.heap.size ∧ g10 ≠ w.heap.size + 1 + 1 ∧ g10 ≠ w.heap.size + 1 + 1 + 1 ∧ g11 ≠ w.heap.size + 1 + 1 ∧ g11 ≠ w.heap.size + 1 + 1 + 1 := by have := HSz.out; omega
     have hlo : w.heap.size ≤ g10 ∧ w.heap.size ≤ g11 := by have := HSz.out; omega
     have hA4 : Bl.At (Bl.out2 u g10 g11 h' q) w.heap.size h := ((HA3.out.below hb).other (by omega) _).other (by omega) _
     have hD4 : Bl.At (Bl.out2 u g10 g11 h' q) g10 h' := (D.lay h').other (by omega) _
     have hE4 : Rp.Bk (Bl.out2 u g10 g11 h' q) g11 q := (E.other (by omega) _).lay q
     have hF4 : Bl.Fr w (Bl.out2 u g10 g11 h' q) (w.heap.size + 1 + 1) (w.heap.size + 1 + 1 + 1) := ((HF3.out.below hb).other hlo.1 (by omega) _).other hlo.2 (by omega) _
     have hl4 : Bl.Lp (fun b => ((P0 b ∧ b < w.heap.size) ∨ U.heap.size ≤ b) ∧ b ∉ X) (Bl.out2 u g10 g11 h' q) h' (Bl.issS M C) := (hl.kp (KpP.row u (fun z => z.2 hx10) _)).kp (KpP.row _ (fun z => z.2 hx11) _)
     have hB4 := hF4.bel
     obtain ⟨W4,hW4⟩ : ∃ W4,Bl.out2 u g10 g11 h' q = W4 := ⟨_,rfl⟩
     rw [hW4] at hA4 hD4 hE4 hF4 hl4 hB4 ⊢
     clear hW4 D E hl hx10 hx11 hb
     have HA4 := Lib.hid hA4
     have HD4 := Lib.hid hD4
     have HE4 := Lib.hid hE4
     have HF4 := Lib.hid hF4
     have HL4 := Lib.hid hl4
     have HB4 := Lib.hid hB4
     have HQ := Lib.hid hq
     clear hA4 hD4 hF4 hl4 hB4
     obtain ⟨t0,t1,t2⟩ := hE4.cells
     clear hE4
     by_cases hw0 : q.why = 0
     ·
      rw [hw0] at t0
      have HP := Lib.hid (HOk.out HNk.out HKe.out (by rw [← HQ.out,hw0]; simp))
      clear hq hw0
      go_wp2_with fail
      refine Bl.wp_pair (g10) (g11) (w.heap.size + 1 + 1) (w.heap.size + 1 + 1 + 1) h' Bl.zsv q ⟨0,0,0⟩ HD4.out HE4.out HF4.out.st HF4.out.rp (by omega) rfl rfl rfl rfl rfl rfl rfl rfl rfl rfl ?_ ?_ ?_ ?_ ?_ ?_ ?_ ?_ ?_ ?_
      · kernel_rfl
      · exact fun _ _ _ h => h
      · exact fun _ _ _ h => h
      · rfl
      · rfl
      · rfl
      · rfl
      · rfl
      · rfl
      go_wp2_with fail
      exact (HF4.out.below ((Below.refl _ _).drew)).ret Tryz.results106 h' q rfl rfl rfl fun b => by rw [HP.out.1,HP.out.2,← HQ.out]; exact ⟨_,rfl,(((HL4.out.mono (fun b z => z.1)).below ((Below.refl _ _).drew)).out2 (P := fun b => P0 b ∧ b < w.heap.size) (u := U) (w := w) (fun b z => z.2) (by omega) (by have := HSz.out; omega) (by omega) (by have := HSz.out; omega)).mono (fun b z => z.elim (fun y => .inl y.1) .inr),b⟩
     ·
      have hqq : (q.why == 0) = false := beq_eq_false_iff_ne.2 hw0
      have HP := Lib.hid (HBa.out HNk.out HKe.out (by rw [← HQ.out]; exact hw0))
      clear hq
      go_wp2_with fail
      refine Bl.wp_pair (w.heap.size) (g11) (w.heap.size + 1 + 1) (w.heap.size + 1 + 1 + 1) h Bl.zsv q ⟨0,0,0⟩ HA4.out HE4.out HF4.out.st HF4.out.rp (by omega) rfl rfl rfl rfl rfl rfl rfl rfl rfl rfl ?_ ?_ ?_ ?_ ?_ ?_ ?_ ?_ ?_ ?_
      · kernel_rfl
      · exact fun _ _ _ h => h
      · exact fun _ _ _ h => h
      · rfl
      · rfl
      · rfl
      · rfl
      · rfl
      · rfl
      go_wp2_with fail
      exact (HF4.out.below ((Below.refl _ _).drew)).ret Tryz.results106 h q rfl rfl rfl fun b => by rw [HP.out.1,HP.out.2,← HQ.out]; exact ⟨_,rfl,(HL.out.below b).wide w,b⟩
   ·
    have hq : (E == 0) = false := beq_eq_false_iff_ne.2 hE0
    have HP := Lib.hid (HUn.out HNk.out (by rw [← HJe.out]; exact hE0))
    rw [← HJe.out] at HP
    clear hA2 hBk2 hT2
    go_wp2_with fail
    refine Bl.wp_refuse (w.heap.size) (w.heap.size + 1 + 1) (w.heap.size + 1 + 1 + 1) h Bl.zsv ⟨0,0,0⟩ (E) HA2.out HF2.out.st HF2.out.rp (by omega) rfl rfl rfl rfl rfl rfl rfl rfl rfl rfl rfl rfl ?_ ?_ ?_ ?_ ?_ ?_ ?_ ?_ ?_ ?_ ?_
    · kernel_rfl
    · exact fun _ _ _ h => h
    · exact fun _ _ _ h => h
    · rfl
    · rfl
    · rfl
    · rfl
    · rfl
    · rfl
    · rfl
    intro w9 b9
    go_wp2_with fail
    exact (HF2.out.below b9).ret Tryz.results106 h ⟨E,0,0⟩ rfl rfl rfl fun b => by rw [HP.out.1,HP.out.2]; exact ⟨_,rfl,(HL.out.below b).wide w,b⟩
end Go.Proofs.YtjpfpojbalepeaaGreat
namespace Go.Proofs.YtjpfpojbalepeaaGreat
open Go.RowKit
open Mem
open Go.Sort (grow)
theorem before_agU (y m d z n e : Int) (hy : Fit y) (hm : Fit m) (hd : Fit d) (hz : Fit z) (hn : Fit n) (he : Fit e) (u : World) (i : Nat) (os : Array Obj) : AnsU 111 #[.agg #[.int .i64 y,.int .i64 m,.int .i64 d],.agg #[.int .i64 z,.int .i64 n,.int .i64 e]] u i os (.bool (aheadB y m d z n e)) :=
 Calls.regrown_of (before_date y m d z n e _ _ (Below.refl _ _) hy hm hd hz hn he)
theorem Bl.back_parts {t : Iv.Tot} (hR : Bl.TotR t) (hs : ∀ x ∈ t.parts,Pt.Short x) : ∀ x ∈ (Iv.backT t).parts,Pt.Short x := by
 have h := (Bl.undo_parts (p := ⟨.empty,0,1,1,1,t,.empty,0,false⟩) (y := 1) (m := 1) (d := 1) hR hs).1
 rw [(Bl.undo_go (p := ⟨.empty,0,1,1,1,t,.empty,0,false⟩) (y := 1) (m := 1) (d := 1) (fun q => q.elim (fun z => by cases z) (fun z => z ⟨rfl,rfl⟩)) (fun q => q.elim (fun z => absurd z (by decide)) (fun z => absurd z (Int.lt_irrefl _)))).2] at h
 exact h
theorem Bl.undo_at {p z : Bl.Ps} {l : List Bl.Ps} {q : Nat} (e : Bl.pix p.ofS p.ofN l = q) (h : q < l.length) (hz : l[q] = z) : Bl.Undo p l ↔ Bl.Own z ∧ Dt.days z.y z.m z.d ≤ Dt.days p.y p.m p.d ∧ Iv.backE z.tot = 0 ∧ p.tot = Iv.back z.tot := by
 subst e hz
 exact ⟨fun u => u.2,fun u => ⟨h,u⟩⟩
set_option maxHeartbeats 8000000 in
theorem bil_undoes (r : Pd.T) (p : Bl.Ps) (ps : List Bl.Ps) (rs : List Pd.T) (ao : Option Addr) (n cap : Nat) (w0 w : World) (hw : Below w0.heap.size w0 w) (hI : Bl.IsP w r p) (hS : Pd.Short r) (hR : Dt.rightB p.y p.m p.d = true) (hL : Pd.Ls w ao n cap rs) (hE : Bl.Each w rs ps) (hA : Bl.EachR ps) :
  Calls Tryz.prog 73 #[Pd.val r,.slice ao n cap] w (Bl.YesE w0 (Bl.Undo p ps)) := by
 have HW := Lib.hid hw
 have HI := Lib.hid hI
 have HSh := Lib.hid hS
 have HR := Lib.hid hR
 have HL := Lib.hid hL
 have HN := Lib.hid hL.len
 have HE := Lib.hid hE
 have HEr := Lib.hid hA
 have hcap := hL.reach
 have hfit := hL.fits
 clear hL hw hE hI hS hR hA
 obtain ⟨W,hW,hbW,hC⟩ := Pd.boxed1 w r
 have HBW := Lib.hid hbW
 have HC := Lib.hid hC
 unfold Pd.C at hC
 obtain ⟨a0,a1,a2,a3,a4,a5,a6,a7,a8,a9,a10,a11⟩ := hC
 clear hbW
 unfold Pd.val
 go_enter Tryz.func73,Tryz.ntmps73
 go_wp2_with fail
 clear hW
 refine (bil_index ps rs r.ofS r.ofN ao n cap W W (Below.refl _ _) (HL.out.below HBW.out) (HE.out.below HBW.out)).mono ?_
 rintro e w1 ⟨rfl,b1⟩
 have HB1 := Lib.hid b1
 have hC1 := HC.out.below b1
 clear a0 a1 a2 a3 a4 a5 a6 a7 a8 a9 a10 a11 b1
 have hpl := Bl.pix_le r.ofS r.ofN ps
 obtain ⟨q,hq⟩ : ∃ q,Bl.pix r.ofS r.ofN ps = q := ⟨_,rfl⟩
 rw [hq] at hpl ⊢
 have HQ : Hid (Bl.pix p.ofS p.ofN ps = q) := Lib.hid (by rw [← HI.out.ofS,← HI.out.ofN]; exact hq)
 clear hq
 have hqn : q ≤ n := by have := HN.out; have := HE.out.len; omega
 clear hpl
 unfold Pd.C at hC1
 obtain ⟨a0,a1,a2,a3,a4,a5,a6,a7,a8,a9,a10,a11⟩ := hC1
 by_cases hlt : q < n
 ·
  obtain ⟨b,off,rfl⟩ := HL.out.at (by omega)
  have hkl : q < rs.length := HN.out ▸ hlt
  have hkp : q < ps.length := HE.out.len ▸ hkl
  have hrow := ((HL.out.row q hkl).below HBW.out).below HB1.out
  have hX := HE.out.each q hkl
  have hXs := HL.out.short _ (List.getElem_mem hkl)
  have hZr := HEr.out _ (List.getElem_mem hkp)
  obtain ⟨x,hx⟩ : ∃ x,rs[q] = x := ⟨_,rfl⟩
  obtain ⟨z,hz⟩ : ∃ z,ps[q] = z := ⟨_,rfl⟩
  have HUn := Lib.hid (Bl.undo_at HQ.out hkp hz)
  rw [hx] at hrow hX hXs
  rw [hz] at hX hZr
  clear hx hz
  have HX := Lib.hid hX
  have HXs := Lib.hid hXs
  have HZr := Lib.hid hZr
  have HRow := Lib.hid hrow
  have HXn : Hid (x.parts.n ≤ 1000) := Lib.hid (by have h1 := hX.parts.len; have h2 := hZr.2.few; omega)
  have HAh : Hid (aheadB r.y r.m r.d x.y x.m x.d = decide (Dt.days p.y p.m p.d < Dt.days z.y z.m z.d)) := Lib.hid (by rw [HI.out.y,HI.out.m,HI.out.d,hX.y,hX.m,hX.d]; exact ahead_both HR.out hZr.1)
  have eoS := hX.ofS
  have eoN := hX.ofN
  clear hX hXs hZr
  obtain ⟨c0,c1,c2,c3,c4,c5,c6,c7,c8,c9,c10,c11⟩ := hrow
  have qn : ((q : Int) == (n : Int)) = false := beq_eq_false_iff_ne.2 (by omega)
  have a2' := cell_regrown a2
  have a3' := cell_regrown a3
  have a4' := cell_regrown a4
  have c2' := cell_regrown c2
  have c3' := cell_regrown c3
  have c4' := cell_regrown c4
  have c9' := cell_regrown c9
  have c10' := cell_regrown c10
  clear a0 a1 a2 a3 a4 a5 a6 a7 a8 a9 a10 a11 c0 c1 c2 c3 c4 c5 c6 c7 c8 c9 c10 c11
  by_cases h1 : x.ofS = .empty
  ·
   have q1 : (x.ofS.toList == []) = true := by rw [h1,emptyB]; rfl
   by_cases h2 : x.ofN = 0
   ·
    have q2 : (x.ofN == 0) = true := beq_iff_eq.2 h2
    have HOw : Hid (Bl.Own z) := Lib.hid ⟨eoS ▸ h1,eoN ▸ h2⟩
    clear eoS eoN h1 h2
    have cB := fun i os => before_agU r.y r.m r.d x.y x.m x.d HSh.out.2.2.1 HSh.out.2.2.2.1 HSh.out.2.2.2.2.1 HXs.out.2.2.1 HXs.out.2.2.2.1 HXs.out.2.2.2.2.1 w1 i os
    rw [HAh.out] at cB
    by_cases hdy : Dt.days p.y p.m p.d < Dt.days z.y z.m z.d
    ·
     have HNo : Hid (¬ Bl.Undo p ps) := Lib.hid fun u => by
      obtain ⟨h1,h2⟩ := HUn.out.1 u
      omega
     rw [decide_eq_true hdy] at cB
     clear hdy
     go_wp2_with fail
     refine wp_region_quiet_below (by kernel_rfl) (by kernel_rfl) ?_
     repeat (first | go_big_quiet_step (first | (go_at_call 111; exact cB _ _)) | quiet_step (first | (go_at_call 111; exact cB _ _)))
     refine wpQuiet_nil ?_
     intro _ hw'
     obtain ⟨⟨dq,osq⟩,hw''⟩ := hw'
     subst hw''
     have HB2 := Lib.hid (bchain HB1.out (below_regrown w1 dq osq))
     go_wp2_with fail
     go_ret
     exact ⟨.inr ⟨HNo.out,rfl⟩,bchain HW.out (bchain HBW.out HB2.out)⟩
    ·
     have HDy : Hid (Dt.days z.y z.m z.d ≤ Dt.days p.y p.m p.d) := Lib.hid (by omega)
     rw [decide_eq_false hdy] at cB
     clear hdy
     go_wp2_with fail
     refine wp_region_quiet_below (by kernel_rfl) (by kernel_rfl) ?_
     repeat (first | go_big_quiet_step (first | (go_at_call 111; exact cB _ _)) | quiet_step (first | (go_at_call 111; exact cB _ _)))
     refine wpQuiet_nil ?_
     intro _ hw'
     obtain ⟨⟨dq,osq⟩,hw''⟩ := hw'
     subst hw''
     have HB2 := Lib.hid (bchain HB1.out (below_regrown w1 dq osq))
     have HI2 := Lib.hid (HI.out.below (bchain HBW.out HB2.out))
     have HC2 := Lib.hid (HC.out.below HB2.out)
     have HX2 := Lib.hid (HX.out.below (bchain HBW.out HB2.out))
     have hrw2 := HRow.out.below (below_regrown w1 dq osq)
     generalize grow (redrawn w1 dq) osq = w2 at *
     obtain ⟨c0,c1,c2,c3,c4,c5,c6,c7,c8,c9,c10,c11⟩ := hrw2
     clear cB
     go_wp2_with fail
     have hPt := HX2.out.parts
     have hbk := inv_back z.tot x.parts.ao x.parts.n x.parts.cap w2 hPt (HX.out.net ▸ HXs.out.2.2.2.2.2.1) (HX.out.tax ▸ HXs.out.2.2.2.2.2.2.1) (HX.out.gross ▸ HXs.out.2.2.2.2.2.2.2.1) HXn.out
     rw [← HX.out.net,← HX.out.tax,← HX.out.gross] at hbk
     unfold Tt.val at hbk
     refine hbk.mono ?_
     clear hPt hbk
     rintro e w3 ⟨v,rfl,o3,b3⟩
     have HB3 := Lib.hid (bchain HB2.out b3)
     have HI3 := Lib.hid (HI2.out.below b3)
     have HC3 := Lib.hid (HC2.out.below b3)
     obtain ⟨vo,vc,rfl,l3,i3⟩ := Pt.own_ls o3 (Bl.back_parts HZr.out.2 HX.out.parts.short)
     have HL3 := Lib.hid l3
     clear c0 c1 c2 c3 c4 c5 c6 c7 c8 c9 c10 c11 b3 o3 l3 i3
     obtain ⟨T,hT⟩ : ∃ T,Iv.backT z.tot = T := ⟨_,rfl⟩
     obtain ⟨E,hE⟩ : ∃ E,Iv.backE z.tot = E := ⟨_,rfl⟩
     have HTz := Lib.hid hT
     have HEz := Lib.hid hE
     rw [hT] at HL3 ⊢
     rw [hE]
     clear hT hE
     obtain ⟨tn,htn⟩ : ∃ tn,T.parts.length = tn := ⟨_,rfl⟩
     rw [htn] at HL3 ⊢
     clear htn
     obtain ⟨b4,k4,s4⟩ := Bl.al1 w3 (.cells #[.int .i64 T.net,.int .i64 T.tax,.int .i64 T.gross,.slice vo tn vc] 64)
     obtain ⟨V,hV⟩ : ∃ V,w3.alloc (.cells #[.int .i64 T.net,.int .i64 T.tax,.int .i64 T.gross,.slice vo tn vc] 64) = V := ⟨_,rfl⟩
     rw [hV] at b4 k4 s4
     have hT4 : Tt.At V w3.heap.size T.net T.tax T.gross (.slice vo tn vc) := k4
     obtain ⟨t0,t1,t2,t3⟩ := hT4.cells
     have hC4 := HC3.out.below b4
     unfold Pd.C at hC4
     obtain ⟨a0,a1,a2,a3,a4,a5,a6,a7,a8,a9,a10,a11⟩ := hC4
     have HB4 := Lib.hid (bchain HB3.out b4)
     have HI4 := Lib.hid (HI3.out.below b4)
     have HL4 := Lib.hid (HL3.out.below b4)
     clear b4 k4 s4 hT4
     unfold Tt.val
     by_cases he : E = 0
     ·
      subst he
      have HSm := Lib.hid (bil_same T p.tot vo r.parts.ao tn vc r.parts.n r.parts.cap V V (Below.refl _ _) HL4.out HI4.out.parts)
      rw [← HI.out.net,← HI.out.tax,← HI.out.gross] at HSm
      unfold Tt.val at HSm
      go_wp2_with fail
      refine HSm.out.mono ?_
      rintro e w5 ⟨hcase,b5⟩
      have HB5 := Lib.hid (bchain HB4.out b5)
      have HTb : Hid (T = Iv.back z.tot) := Lib.hid (by rw [← HTz.out]; unfold Iv.backT; rw [if_pos HEz.out])
      clear b5 a0 a1 a2 a3 a4 a5 a6 a7 a8 a9 a10 a11 HSm t0 t1 t2 t3
      rcases hcase with ⟨hsm,rfl⟩ | ⟨hno,rfl⟩
      ·
       have HYes : Hid (Bl.Undo p ps) := Lib.hid (HUn.out.2 ⟨HOw.out,HDy.out,HEz.out,by rw [← hsm]; exact HTb.out⟩)
       clear hsm
       go_wp2_with fail
       go_ret
       exact ⟨.inl ⟨HYes.out,rfl⟩,bchain HW.out (bchain HBW.out HB5.out)⟩
      ·
       have HNo : Hid (¬ Bl.Undo p ps) := Lib.hid fun u => hno (HTb.out.trans (HUn.out.1 u).2.2.2.symm)
       clear hno
       go_wp2_with fail
       go_ret
       exact ⟨.inr ⟨HNo.out,rfl⟩,bchain HW.out (bchain HBW.out HB5.out)⟩
     ·
      have qe : (E == 0) = false := beq_eq_false_iff_ne.2 he
      have HNo : Hid (¬ Bl.Undo p ps) := Lib.hid fun u => he (HEz.out ▸ (HUn.out.1 u).2.2.1)
      clear he
      go_wp2_with fail
      go_ret
      exact ⟨.inr ⟨HNo.out,rfl⟩,bchain HW.out (bchain HBW.out HB4.out)⟩
   ·
    have q2 : (x.ofN == 0) = false := beq_eq_false_iff_ne.2 h2
    have HNo : Hid (¬ Bl.Undo p ps) := Lib.hid fun u => h2 (eoN.trans (HUn.out.1 u).1.2)
    clear eoS eoN h1 h2
    go_wp2_with fail
    refine wp_region_quiet_below (by kernel_rfl) (by kernel_rfl) ?_
    repeat (first | go_big_quiet_step (fail) | quiet_step (fail))
    refine wpQuiet_nil ?_
    intro _ hw'
    obtain ⟨⟨dq,osq⟩,hw''⟩ := hw'
    subst hw''
    have HB2 := Lib.hid (bchain HB1.out (below_regrown w1 dq osq))
    go_wp2_with fail
    go_ret
    exact ⟨.inr ⟨HNo.out,rfl⟩,bchain HW.out (bchain HBW.out HB2.out)⟩
  ·
   have q1 : (x.ofS.toList == []) = false := beq_eq_false_iff_ne.2 fun e => h1 (Vt.cat_ext (e.trans emptyB.symm))
   have HNo : Hid (¬ Bl.Undo p ps) := Lib.hid fun u => h1 (eoS.trans (HUn.out.1 u).1.1)
   clear eoS eoN h1
   go_wp2_with fail
   refine wp_region_quiet_below (by kernel_rfl) (by kernel_rfl) ?_
   repeat (first | go_big_quiet_step (fail) | quiet_step (fail))
   refine wpQuiet_nil ?_
   intro _ hw'
   obtain ⟨⟨dq,osq⟩,hw''⟩ := hw'
   subst hw''
   have HB2 := Lib.hid (bchain HB1.out (below_regrown w1 dq osq))
   go_wp2_with fail
   go_ret
   exact ⟨.inr ⟨HNo.out,rfl⟩,bchain HW.out (bchain HBW.out HB2.out)⟩
 ·
  obtain rfl : q = n := by omega
  have qn : ((q : Int) == (q : Int)) = true := beq_self_eq_true _
  have HNo : Hid (¬ Bl.Undo p ps) := Lib.hid fun u => by
   have h1 := u.1
   rw [HQ.out,← HE.out.len,← HN.out] at h1
   exact Nat.lt_irrefl _ h1
  clear a0 a1 a2 a3 a4 a5 a6 a7 a8 a9 a10 a11
  go_wp2_with fail
  refine wp_region_quiet_below (by kernel_rfl) (by kernel_rfl) ?_
  repeat (first | go_big_quiet_step (fail) | quiet_step (fail))
  refine wpQuiet_nil ?_
  intro _ hw'
  obtain ⟨⟨dq,osq⟩,hw''⟩ := hw'
  subst hw''
  have HB2 := Lib.hid (bchain HB1.out (below_regrown w1 dq osq))
  go_wp2_with fail
  go_ret
  exact ⟨.inr ⟨HNo.out,rfl⟩,bchain HW.out (bchain HBW.out HB2.out)⟩
end Go.Proofs.YtjpfpojbalepeaaGreat
namespace Go.Proofs.YtjpfpojbalepeaaGreat
open Go.RowKit
open Mem
open Go.Sort (grow)
theorem Bl.Each.take {w : World} {rs : List Pd.T} {ps : List Bl.Ps} (h : Bl.Each w rs ps) (k : Nat) : Bl.Each w (rs.take k) (ps.take k) := by
 have hl : (rs.take k).length = (ps.take k).length := by rw [List.length_take,List.length_take,h.len]
 refine ⟨hl,fun i hi => ?_⟩
 have hi' := hi
 rw [List.length_take] at hi'
 have := h.each i (by omega)
 simp only [List.getElem_take]
 exact this
theorem Bl.EachR.take {ps : List Bl.Ps} (h : Bl.EachR ps) (k : Nat) : Bl.EachR (ps.take k) := fun p hp => h p (List.mem_of_mem_take hp)
set_option maxHeartbeats 16000000 in
theorem bil_credited (ps : List Bl.Ps) (rs : List Pd.T) (ao : Option Addr) (n cap : Nat) (w0 w : World) (hw : Below w0.heap.size w0 w) (hL : Pd.Ls w ao n cap rs) (hE : Bl.Each w rs ps) (hA : Bl.EachR ps) :
  Calls Tryz.prog 33 #[.slice ao n cap] w (Bl.YesE w0 (∀ i (h : i < ps.length),Bl.CredR ps i h)) := by
 have HW := Lib.hid hw
 have HL := Lib.hid hL
 have HN := Lib.hid hL.len
 have HE := Lib.hid hE
 have HEr := Lib.hid hA
 have hcap := hL.reach
 have hfit := hL.fits
 clear hL hw hE hA
 go_enter Tryz.func33,Tryz.ntmps33
 go_wp2_with fail
 go_loopw [3,4,5,8] (fun _ _ _ j wr => ∃ k : Nat,k ≤ n ∧ j = .int .i64 k ∧ Hid (∀ i (h : i < ps.length),i < k → Bl.CredR ps i h) ∧ Hid (Below w.heap.size w wr)) (fun _ _ _ j _ => n - (intOf j).toNat)
 case atStart => exact ⟨0,by omega,rfl,Lib.hid (fun _ _ h => absurd h (Nat.not_lt_zero _)),Lib.hid (Below.refl _ _)⟩
 case round =>
  obtain ⟨k,hk,rfl,HT,HB⟩ := hrel
  by_cases hlt : k < n
  ·
   obtain ⟨b,off,rfl⟩ := HL.out.at (by omega)
   have hkl : k < rs.length := HN.out ▸ hlt
   have hkp : k < ps.length := HE.out.len ▸ hkl
   have hrow := (HL.out.row k hkl).below HB.out
   have HSh := Lib.hid (HL.out.short _ (List.getElem_mem hkl))
   have hI := HE.out.each k hkl
   have hRt := (HEr.out _ (List.getElem_mem hkp)).1
   obtain ⟨r,hr⟩ : ∃ r,rs[k] = r := ⟨_,rfl⟩
   obtain ⟨p,hp⟩ : ∃ p,ps[k] = p := ⟨_,rfl⟩
   have HP := Lib.hid hp
   rw [hr] at hrow hI HSh
   rw [hp] at hI hRt
   clear hr hp
   have HRt := Lib.hid hRt
   have HEk := Lib.hid (HEr.out.take k)
   have HC := Lib.hid (Pd.c_box wr r)
   have HBW := Lib.hid (bchain HB.out (Pd.below_own wr r))
   have HI := Lib.hid hI
   have hA' := HC.out
   unfold Pd.C at hA'
   obtain ⟨a0,a1,a2,a3,a4,a5,a6,a7,a8,a9,a10,a11⟩ := hA'
   have x0 := cell_regrown a0
   have x1 := cell_regrown a1
   have x2 := cell_regrown a2
   have x3 := cell_regrown a3
   have x4 := cell_regrown a4
   have x5 := cell_regrown a5
   have x6 := cell_regrown a6
   have x7 := cell_regrown a7
   have x8 := cell_regrown a8
   have x9 := cell_regrown a9
   have x10 := cell_regrown a10
   have x11 := cell_regrown a11
   clear a0 a1 a2 a3 a4 a5 a6 a7 a8 a9 a10 a11
   have eoS := hI.ofS
   have eoN := hI.ofN
   clear hI hRt
   by_cases h1 : r.ofS = .empty
   ·
    have q1 : (r.ofS.toList == []) = true := by rw [h1,emptyB]; rfl
    by_cases h2 : r.ofN = 0
    ·
     have q2 : (r.ofN == 0) = true := beq_iff_eq.2 h2
     have HOf : Hid (¬ Bl.Own p → Bl.Undo p (ps.take k)) := Lib.hid fun z => absurd ⟨eoS ▸ h1,eoN ▸ h2⟩ z
     clear eoS eoN h1 h2
     go_wp2_with (first | ((with_reducible apply Pd.wpl_load hrow); rfl; rfl; rfl) | ((with_reducible apply Pd.wpl_store (r := r) (g := wr.heap.size)); rfl; rfl; rfl; rfl; rfl; rfl))
     refine wp_region_quiet_below (by kernel_rfl) (by kernel_rfl) ?_
     repeat (first | go_big_quiet_step (fail) | quiet_step (fail))
     refine wpQuiet_nil ?_
     intro _ hw'
     obtain ⟨⟨dq,osq⟩,hw''⟩ := hw'
     subst hw''
     have HB2 := Lib.hid (bchain HBW.out (below_regrown (Pd.box wr r) dq osq))
     have hC2 := HC.out.below (below_regrown (Pd.box wr r) dq osq)
     generalize grow (redrawn (Pd.box wr r) dq) osq = w2 at *
     have hC2' := hC2
     unfold Pd.C at hC2'
     obtain ⟨a0,a1,a2,a3,a4,a5,a6,a7,a8,a9,a10,a11⟩ := hC2'
     cases hb : r.back
     ·
      have HBk : Hid (p.back = false) := Lib.hid (by rw [← HI.out.back]; exact hb)
      rw [hb] at a11
      clear hb
      have HCr := Lib.hid hC2
      go_wp2_with fail
      refine (bil_credits ps rs r.ser r.num (some ⟨b,off,none⟩) n cap w2 w2 (Below.refl _ _) (HL.out.below HB2.out) (HE.out.below HB2.out)).mono ?_
      rintro e w3 ⟨rfl,b3⟩
      have HB3 := Lib.hid (bchain HB2.out b3)
      clear b3
      obtain ⟨q,hq⟩ : ∃ q,Bl.crd r.ser r.num ps = q := ⟨_,rfl⟩
      have HQ : Hid (Bl.crd p.ser p.num ps = q) := Lib.hid (by rw [← HI.out.ser,← HI.out.num]; exact hq)
      rw [hq]
      clear hq
      by_cases he : q = 0
      ·
       subst he
       have HYes : Hid (Bl.CredR ps k hkp) := Lib.hid ⟨by rw [HP.out]; exact HOf.out,by rw [HP.out,HQ.out,HBk.out]; rfl⟩
       go_wp2_with fail
       go_roundw
       case rel =>
        refine ⟨k + 1,by omega,by go_num,Lib.hid ?_,HB3⟩
        intro i hi hik
        rcases Nat.lt_or_ge i k with h | h
        · exact HT.out i hi h
        ·
         obtain rfl : i = k := by omega
         exact HYes.out
       case measure => simp [intOf]; omega
      ·
       have qe : ((q : Int) != 0) = true := bne_iff_ne.2 (by omega)
       have HNo : Hid (¬ ∀ i (h : i < ps.length),Bl.CredR ps i h) := Lib.hid fun z => he (by
        have h := (z k hkp).cnt
        rw [HP.out,HQ.out,HBk.out] at h
        exact h)
       clear he
       go_wp2_with fail
       go_ret
       exact ⟨.inr ⟨HNo.out,rfl⟩,bchain HW.out HB3.out⟩
     ·
      have HBk : Hid (p.back = true) := Lib.hid (by rw [← HI.out.back]; exact hb)
      rw [hb] at a11
      clear hb
      have HCr := Lib.hid hC2
      go_wp2_with fail
      refine (bil_credits ps rs r.ser r.num (some ⟨b,off,none⟩) n cap w2 w2 (Below.refl _ _) (HL.out.below HB2.out) (HE.out.below HB2.out)).mono ?_
      rintro e w3 ⟨rfl,b3⟩
      have HB3 := Lib.hid (bchain HB2.out b3)
      clear b3
      obtain ⟨q,hq⟩ : ∃ q,Bl.crd r.ser r.num ps = q := ⟨_,rfl⟩
      have HQ : Hid (Bl.crd p.ser p.num ps = q) := Lib.hid (by rw [← HI.out.ser,← HI.out.num]; exact hq)
      rw [hq]
      clear hq
      by_cases he : q = 1
      ·
       subst he
       have HYes : Hid (Bl.CredR ps k hkp) := Lib.hid ⟨by rw [HP.out]; exact HOf.out,by rw [HP.out,HQ.out,HBk.out]; rfl⟩
       go_wp2_with fail
       go_roundw
       case rel =>
        refine ⟨k + 1,by omega,by go_num,Lib.hid ?_,HB3⟩
        intro i hi hik
        rcases Nat.lt_or_ge i k with h | h
        · exact HT.out i hi h
        ·
         obtain rfl : i = k := by omega
         exact HYes.out
       case measure => simp [intOf]; omega
      ·
       have qe : ((q : Int) != 1) = true := bne_iff_ne.2 (by omega)
       have HNo : Hid (¬ ∀ i (h : i < ps.length),Bl.CredR ps i h) := Lib.hid fun z => he (by
        have h := (z k hkp).cnt
        rw [HP.out,HQ.out,HBk.out] at h
        exact h)
       clear he
       go_wp2_with fail
       go_ret
       exact ⟨.inr ⟨HNo.out,rfl⟩,bchain HW.out HB3.out⟩
    ·
     have q2 : (r.ofN == 0) = false := beq_eq_false_iff_ne.2 h2
     have HNw : Hid (¬ Bl.Own p) := Lib.hid fun z => h2 (eoN.trans z.2)
     clear eoS eoN h1 h2
     have hls := HL.out.to k (by omega)
     have HSl := Lib.hid hls.2
     have hsl := hls.1
     clear hls
     by_cases hu : Bl.Undo p (ps.take k)
     ·
      have cU : ∀ i os,AnsU 73 #[Pd.val r,.slice (some ⟨b,off,none⟩) k cap] (Pd.box wr r) i os (.bool true) := fun i os => Calls.regrown_of ((bil_undoes r p (ps.take k) (rs.take k) (some ⟨b,off,none⟩) k cap _ _ (Below.refl _ _) (HI.out.below (bchain HBW.out (below_regrown (Pd.box wr r) i os))) HSh.out HRt.out (HSl.out.below (bchain HBW.out (below_regrown (Pd.box wr r) i os))) ((HE.out.take k).below (bchain HBW.out (below_regrown (Pd.box wr r) i os))) HEk.out).mono fun e v h => ⟨h.1.elim (fun z => z.2) (fun z => absurd hu z.1),h.2⟩)
      unfold Pd.val at cU
      have HOf : Hid (¬ Bl.Own p → Bl.Undo p (ps.take k)) := Lib.hid fun _ => hu
      clear hu
      go_wp2_with (first | ((with_reducible apply Pd.wpl_load hrow); rfl; rfl; rfl) | ((with_reducible apply Pd.wpl_store (r := r) (g := wr.heap.size)); rfl; rfl; rfl; rfl; rfl; rfl))
      refine wp_region_quiet_below (by kernel_rfl) (by kernel_rfl) ?_
      repeat (first | go_big_quiet_step (first | (go_at_call 73; exact cU _ _)) | quiet_step (first | (go_at_call 73; exact cU _ _)))
      refine wpQuiet_nil ?_
      intro _ hw'
      obtain ⟨⟨dq,osq⟩,hw''⟩ := hw'
      subst hw''
      have HB2 := Lib.hid (bchain HBW.out (below_regrown (Pd.box wr r) dq osq))
      clear cU
      have hC2 := HC.out.below (below_regrown (Pd.box wr r) dq osq)
      generalize grow (redrawn (Pd.box wr r) dq) osq = w2 at *
      have hC2' := hC2
      unfold Pd.C at hC2'
      obtain ⟨a0,a1,a2,a3,a4,a5,a6,a7,a8,a9,a10,a11⟩ := hC2'
      cases hb : r.back
      ·
       have HBk : Hid (p.back = false) := Lib.hid (by rw [← HI.out.back]; exact hb)
       rw [hb] at a11
       clear hb
       have HCr := Lib.hid hC2
       go_wp2_with fail
       refine (bil_credits ps rs r.ser r.num (some ⟨b,off,none⟩) n cap w2 w2 (Below.refl _ _) (HL.out.below HB2.out) (HE.out.below HB2.out)).mono ?_
       rintro e w3 ⟨rfl,b3⟩
       have HB3 := Lib.hid (bchain HB2.out b3)
       clear b3
       obtain ⟨q,hq⟩ : ∃ q,Bl.crd r.ser r.num ps = q := ⟨_,rfl⟩
       have HQ : Hid (Bl.crd p.ser p.num ps = q) := Lib.hid (by rw [← HI.out.ser,← HI.out.num]; exact hq)
       rw [hq]
       clear hq
       by_cases he : q = 0
       ·
        subst he
        have HYes : Hid (Bl.CredR ps k hkp) := Lib.hid ⟨by rw [HP.out]; exact HOf.out,by rw [HP.out,HQ.out,HBk.out]; rfl⟩
        go_wp2_with fail
        go_roundw
        case rel =>
         refine ⟨k + 1,by omega,by go_num,Lib.hid ?_,HB3⟩
         intro i hi hik
         rcases Nat.lt_or_ge i k with h | h
         · exact HT.out i hi h
         ·
          obtain rfl : i = k := by omega
          exact HYes.out
        case measure => simp [intOf]; omega
       ·
        have qe : ((q : Int) != 0) = true := bne_iff_ne.2 (by omega)
        have HNo : Hid (¬ ∀ i (h : i < ps.length),Bl.CredR ps i h) := Lib.hid fun z => he (by
         have h := (z k hkp).cnt
         rw [HP.out,HQ.out,HBk.out] at h
         exact h)
        clear he
        go_wp2_with fail
        go_ret
        exact ⟨.inr ⟨HNo.out,rfl⟩,bchain HW.out HB3.out⟩
      ·
       have HBk : Hid (p.back = true) := Lib.hid (by rw [← HI.out.back]; exact hb)
       rw [hb] at a11
       clear hb
       have HCr := Lib.hid hC2
       go_wp2_with fail
       refine (bil_credits ps rs r.ser r.num (some ⟨b,off,none⟩) n cap w2 w2 (Below.refl _ _) (HL.out.below HB2.out) (HE.out.below HB2.out)).mono ?_
       rintro e w3 ⟨rfl,b3⟩
       have HB3 := Lib.hid (bchain HB2.out b3)
       clear b3
       obtain ⟨q,hq⟩ : ∃ q,Bl.crd r.ser r.num ps = q := ⟨_,rfl⟩
       have HQ : Hid (Bl.crd p.ser p.num ps = q) := Lib.hid (by rw [← HI.out.ser,← HI.out.num]; exact hq)
       rw [hq]
       clear hq
       by_cases he : q = 1
       ·
        subst he
        have HYes : Hid (Bl.CredR ps k hkp) := Lib.hid ⟨by rw [HP.out]; exact HOf.out,by rw [HP.out,HQ.out,HBk.out]; rfl⟩
        go_wp2_with fail
        go_roundw
        case rel =>
         refine ⟨k + 1,by omega,by go_num,Lib.hid ?_,HB3⟩
         intro i hi hik
         rcases Nat.lt_or_ge i k with h | h
         · exact HT.out i hi h
         ·
          obtain rfl : i = k := by omega
          exact HYes.out
        case measure => simp [intOf]; omega
       ·
        have qe : ((q : Int) != 1) = true := bne_iff_ne.2 (by omega)
        have HNo : Hid (¬ ∀ i (h : i < ps.length),Bl.CredR ps i h) := Lib.hid fun z => he (by
         have h := (z k hkp).cnt
         rw [HP.out,HQ.out,HBk.out] at h
         exact h)
        clear he
        go_wp2_with fail
        go_ret
        exact ⟨.inr ⟨HNo.out,rfl⟩,bchain HW.out HB3.out⟩
     ·
      have cU : ∀ i os,AnsU 73 #[Pd.val r,.slice (some ⟨b,off,none⟩) k cap] (Pd.box wr r) i os (.bool false) := fun i os => Calls.regrown_of ((bil_undoes r p (ps.take k) (rs.take k) (some ⟨b,off,none⟩) k cap _ _ (Below.refl _ _) (HI.out.below (bchain HBW.out (below_regrown (Pd.box wr r) i os))) HSh.out HRt.out (HSl.out.below (bchain HBW.out (below_regrown (Pd.box wr r) i os))) ((HE.out.take k).below (bchain HBW.out (below_regrown (Pd.box wr r) i os))) HEk.out).mono fun e v h => ⟨h.1.elim (fun z => absurd z.1 hu) (fun z => z.2),h.2⟩)
      unfold Pd.val at cU
      have HNo : Hid (¬ ∀ i (h : i < ps.length),Bl.CredR ps i h) := Lib.hid fun z => hu (by
       have h := (z k hkp).of
       rw [HP.out] at h
       exact h HNw.out)
      clear hu
      go_wp2_with (first | ((with_reducible apply Pd.wpl_load hrow); rfl; rfl; rfl) | ((with_reducible apply Pd.wpl_store (r := r) (g := wr.heap.size)); rfl; rfl; rfl; rfl; rfl; rfl))
      refine wp_region_quiet_below (by kernel_rfl) (by kernel_rfl) ?_
      repeat (first | go_big_quiet_step (first | (go_at_call 73; exact cU _ _)) | quiet_step (first | (go_at_call 73; exact cU _ _)))
      refine wpQuiet_nil ?_
      intro _ hw'
      obtain ⟨⟨dq,osq⟩,hw''⟩ := hw'
      subst hw''
      have HB2 := Lib.hid (bchain HBW.out (below_regrown (Pd.box wr r) dq osq))
      go_wp2_with fail
      go_ret
      exact ⟨.inr ⟨HNo.out,rfl⟩,bchain HW.out HB2.out⟩
   ·
    have q1 : (r.ofS.toList == []) = false := beq_eq_false_iff_ne.2 fun e => h1 (Vt.cat_ext (e.trans emptyB.symm))
    have HNw : Hid (¬ Bl.Own p) := Lib.hid fun z => h1 (eoS.trans z.1)
    clear eoS eoN h1
    have hls := HL.out.to k (by omega)
    have HSl := Lib.hid hls.2
    have hsl := hls.1
    clear hls
    by_cases hu : Bl.Undo p (ps.take k)
    ·
     have cU : ∀ i os,AnsU 73 #[Pd.val r,.slice (some ⟨b,off,none⟩) k cap] (Pd.box wr r) i os (.bool true) := fun i os => Calls.regrown_of ((bil_undoes r p (ps.take k) (rs.take k) (some ⟨b,off,none⟩) k cap _ _ (Below.refl _ _) (HI.out.below (bchain HBW.out (below_regrown (Pd.box wr r) i os))) HSh.out HRt.out (HSl.out.below (bchain HBW.out (below_regrown (Pd.box wr r) i os))) ((HE.out.take k).below (bchain HBW.out (below_regrown (Pd.box wr r) i os))) HEk.out).mono fun e v h => ⟨h.1.elim (fun z => z.2) (fun z => absurd hu z.1),h.2⟩)
     unfold Pd.val at cU
     have HOf : Hid (¬ Bl.Own p → Bl.Undo p (ps.take k)) := Lib.hid fun _ => hu
     clear hu
     go_wp2_with (first | ((with_reducible apply Pd.wpl_load hrow); rfl; rfl; rfl) | ((with_reducible apply Pd.wpl_store (r := r) (g := wr.heap.size)); rfl; rfl; rfl; rfl; rfl; rfl))
     refine wp_region_quiet_below (by kernel_rfl) (by kernel_rfl) ?_
     repeat (first | go_big_quiet_step (first | (go_at_call 73; exact cU _ _)) | quiet_step (first | (go_at_call 73; exact cU _ _)))
     refine wpQuiet_nil ?_
     intro _ hw'
     obtain ⟨⟨dq,osq⟩,hw''⟩ := hw'
     subst hw''
     have HB2 := Lib.hid (bchain HBW.out (below_regrown (Pd.box wr r) dq osq))
     clear cU
     have hC2 := HC.out.below (below_regrown (Pd.box wr r) dq osq)
     generalize grow (redrawn (Pd.box wr r) dq) osq = w2 at *
     have hC2' := hC2
     unfold Pd.C at hC2'
     obtain ⟨a0,a1,a2,a3,a4,a5,a6,a7,a8,a9,a10,a11⟩ := hC2'
     cases hb : r.back
     ·
      have HBk : Hid (p.back = false) := Lib.hid (by rw [← HI.out.back]; exact hb)
      rw [hb] at a11
      clear hb
      have HCr := Lib.hid hC2
      go_wp2_with fail
      refine (bil_credits ps rs r.ser r.num (some ⟨b,off,none⟩) n cap w2 w2 (Below.refl _ _) (HL.out.below HB2.out) (HE.out.below HB2.out)).mono ?_
      rintro e w3 ⟨rfl,b3⟩
      have HB3 := Lib.hid (bchain HB2.out b3)
      clear b3
      obtain ⟨q,hq⟩ : ∃ q,Bl.crd r.ser r.num ps = q := ⟨_,rfl⟩
      have HQ : Hid (Bl.crd p.ser p.num ps = q) := Lib.hid (by rw [← HI.out.ser,← HI.out.num]; exact hq)
      rw [hq]
      clear hq
      by_cases he : q = 0
      ·
       subst he
       have HYes : Hid (Bl.CredR ps k hkp) := Lib.hid ⟨by rw [HP.out]; exact HOf.out,by rw [HP.out,HQ.out,HBk.out]; rfl⟩
       go_wp2_with fail
       go_roundw
       case rel =>
        refine ⟨k + 1,by omega,by go_num,Lib.hid ?_,HB3⟩
        intro i hi hik
        rcases Nat.lt_or_ge i k with h | h
        · exact HT.out i hi h
        ·
         obtain rfl : i = k := by omega
         exact HYes.out
       case measure => simp [intOf]; omega
      ·
       have qe : ((q : Int) != 0) = true := bne_iff_ne.2 (by omega)
       have HNo : Hid (¬ ∀ i (h : i < ps.length),Bl.CredR ps i h) := Lib.hid fun z => he (by
        have h := (z k hkp).cnt
        rw [HP.out,HQ.out,HBk.out] at h
        exact h)
       clear he
       go_wp2_with fail
       go_ret
       exact ⟨.inr ⟨HNo.out,rfl⟩,bchain HW.out HB3.out⟩
     ·
      have HBk : Hid (p.back = true) := Lib.hid (by rw [← HI.out.back]; exact hb)
      rw [hb] at a11
      clear hb
      have HCr := Lib.hid hC2
      go_wp2_with fail
      refine (bil_credits ps rs r.ser r.num (some ⟨b,off,none⟩) n cap w2 w2 (Below.refl _ _) (HL.out.below HB2.out) (HE.out.below HB2.out)).mono ?_
      rintro e w3 ⟨rfl,b3⟩
      have HB3 := Lib.hid (bchain HB2.out b3)
      clear b3
      obtain ⟨q,hq⟩ : ∃ q,Bl.crd r.ser r.num ps = q := ⟨_,rfl⟩
      have HQ : Hid (Bl.crd p.ser p.num ps = q) := Lib.hid (by rw [← HI.out.ser,← HI.out.num]; exact hq)
      rw [hq]
      clear hq
      by_cases he : q = 1
      ·
       subst he
       have HYes : Hid (Bl.CredR ps k hkp) := Lib.hid ⟨by rw [HP.out]; exact HOf.out,by rw [HP.out,HQ.out,HBk.out]; rfl⟩
       go_wp2_with fail
       go_roundw
       case rel =>
        refine ⟨k + 1,by omega,by go_num,Lib.hid ?_,HB3⟩
        intro i hi hik
        rcases Nat.lt_or_ge i k with h | h
        · exact HT.out i hi h
        ·
         obtain rfl : i = k := by omega
         exact HYes.out
       case measure => simp [intOf]; omega
      ·
       have qe : ((q : Int) != 1) = true := bne_iff_ne.2 (by omega)
       have HNo : Hid (¬ ∀ i (h : i < ps.length),Bl.CredR ps i h) := Lib.hid fun z => he (by
        have h := (z k hkp).cnt
        rw [HP.out,HQ.out,HBk.out] at h
        exact h)
       clear he
       go_wp2_with fail
       go_ret
       exact ⟨.inr ⟨HNo.out,rfl⟩,bchain HW.out HB3.out⟩
    ·
     have cU : ∀ i os,AnsU 73 #[Pd.val r,.slice (some ⟨b,off,none⟩) k cap] (Pd.box wr r) i os (.bool false) := fun i os => Calls.regrown_of ((bil_undoes r p (ps.take k) (rs.take k) (some ⟨b,off,none⟩) k cap _ _ (Below.refl _ _) (HI.out.below (bchain HBW.out (below_regrown (Pd.box wr r) i os))) HSh.out HRt.out (HSl.out.below (bchain HBW.out (below_regrown (Pd.box wr r) i os))) ((HE.out.take k).below (bchain HBW.out (below_regrown (Pd.box wr r) i os))) HEk.out).mono fun e v h => ⟨h.1.elim (fun z => absurd z.1 hu) (fun z => z.2),h.2⟩)
     unfold Pd.val at cU
     have HNo : Hid (¬ ∀ i (h : i < ps.length),Bl.CredR ps i h) := Lib.hid fun z => hu (by
      have h := (z k hkp).of
      rw [HP.out] at h
      exact h HNw.out)
     clear hu
     go_wp2_with (first | ((with_reducible apply Pd.wpl_load hrow); rfl; rfl; rfl) | ((with_reducible apply Pd.wpl_store (r := r) (g := wr.heap.size)); rfl; rfl; rfl; rfl; rfl; rfl))
     refine wp_region_quiet_below (by kernel_rfl) (by kernel_rfl) ?_
     repeat (first | go_big_quiet_step (first | (go_at_call 73; exact cU _ _)) | quiet_step (first | (go_at_call 73; exact cU _ _)))
     refine wpQuiet_nil ?_
     intro _ hw'
     obtain ⟨⟨dq,osq⟩,hw''⟩ := hw'
     subst hw''
     have HB2 := Lib.hid (bchain HBW.out (below_regrown (Pd.box wr r) dq osq))
     go_wp2_with fail
     go_ret
     exact ⟨.inr ⟨HNo.out,rfl⟩,bchain HW.out HB2.out⟩
  ·
   obtain rfl : k = n := by omega
   have HYes : Hid (∀ i (h : i < ps.length),Bl.CredR ps i h) := Lib.hid fun i h => HT.out i h (by have := HN.out; have := HE.out.len; omega)
   go_wp2_with fail
   go_ret
   exact ⟨.inl ⟨HYes.out,rfl⟩,bchain HW.out HB.out⟩
end Go.Proofs.YtjpfpojbalepeaaGreat
namespace Go.Proofs.YtjpfpojbalepeaaGreat.Ba
open Go.RowKit
open Mem
open Go.Sort (grow)
set_option maxHeartbeats 4000000 in
theorem equal_any (xs ys : List T) (ao bo : Option Addr) (n m ca cb : Nat) (w0 w : World) (hw : Below w0.heap.size w0 w) (hA : Ls w ao n ca xs) (hB : Ls w bo m cb ys) :
  Calls Tryz.prog 77 #[.slice ao n ca,.slice bo m cb] w fun e w' => e = .returned (.bool (sameB xs ys)) ∧ Below w0.heap.size w0 w' := by
 have HW := Lib.hid hw
 have HA := Lib.hid hA
 have HB := Lib.hid hB
 have HN := Lib.hid hA.len
 have HM := Lib.hid hB.len
 have hca := hA.reach
 have hfa := hA.fits
 have hcb := hB.reach
 have hfb := hB.fits
 clear hw hA hB
 by_cases hnm : n = m
 ·
  subst hnm
  have hne : ((n : Int) != (n : Int)) = false := bne_self_eq_false _
  go_enter Tryz.func77,Tryz.ntmps77
  go_wp2
  go_loopw [5,13] (fun _ i wr => ∃ k : Nat,k ≤ n ∧ i = .int .i64 k ∧ Hid (sameB (xs.drop k) (ys.drop k) = sameB xs ys) ∧ Hid (Below w.heap.size w wr)) (fun _ i _ => n - (intOf i).toNat)
  case atStart => exact ⟨0,Nat.zero_le _,rfl,Lib.hid rfl,Lib.hid (Below.refl _ _)⟩
  case round =>
   obtain ⟨k,hk,rfl,HK,HBz⟩ := hrel
   by_cases hlt : k < n
   ·
    obtain ⟨a,oa,rfl⟩ := HA.out.at (by omega)
    obtain ⟨b,ob,rfl⟩ := HB.out.at (by omega)
    have hkr : k < xs.length := HN.out ▸ hlt
    have hks : k < ys.length := HM.out ▸ hlt
    have HSt := Lib.hid (same_at xs ys k hkr hks)
    obtain ⟨r,hr⟩ : ∃ r,xs[k] = r := ⟨_,rfl⟩
    obtain ⟨s,hs⟩ : ∃ s,ys[k] = s := ⟨_,rfl⟩
    have h1 := (HA.out.row k hkr).below HBz.out
    have h2 := (HB.out.row k hks).below HBz.out
    rw [hr] at h1 HSt
    rw [hs] at h2 HSt
    clear hr hs
    obtain ⟨g0,g1⟩ := h1
    obtain ⟨f0,f1⟩ := h2
    have g0' := cell_regrown g0
    have g1' := cell_regrown g1
    have f0' := cell_regrown f0
    have f1' := cell_regrown f1
    clear g0 g1 f0 f1
    by_cases e0 : r.acct = s.acct
    ·
     have q0 : (r.acct.toList == s.acct.toList) = true := beq_iff_eq.2 (by rw [e0])
     by_cases e1 : r.amt = s.amt
     ·
      have q1 : (r.amt == s.amt) = true := beq_iff_eq.2 e1
      have HE : Hid (eqB r s = true) := Lib.hid (decide_eq_true ⟨e0,e1⟩)
      clear e0 e1
      go_wp2
      refine wp_region_quiet_below (by kernel_rfl) (by kernel_rfl) ?_
      repeat (first | go_big_quiet_step (fail) | quiet_step (fail))
      refine wpQuiet_nil ?_
      intro _ hw'
      obtain ⟨⟨dq,osq⟩,hw''⟩ := hw'
      subst hw''
      have HBv := Lib.hid (bchain HBz.out (below_regrown wr dq osq))
      go_wp2
      go_roundw
      case rel => exact ⟨k + 1,by omega,by go_num,Lib.hid (by rw [← HK.out,HSt.out,HE.out,Bool.true_and]),HBv⟩
      case measure => simp [intOf]; omega
     ·
      have q1 : (r.amt == s.amt) = false := beq_eq_false_iff_ne.2 e1
      have HE : Hid (eqB r s = false) := Lib.hid (decide_eq_false fun h => e1 h.2)
      clear e0 e1
      go_wp2
      refine wp_region_quiet_below (by kernel_rfl) (by kernel_rfl) ?_
      repeat (first | go_big_quiet_step (fail) | quiet_step (fail))
      refine wpQuiet_nil ?_
      intro _ hw'
      obtain ⟨⟨dq,osq⟩,hw''⟩ := hw'
      subst hw''
      have HBv := Lib.hid (bchain HBz.out (below_regrown wr dq osq))
      go_wp2
      go_ret
      exact ⟨ret_bool (by rw [← HK.out,HSt.out,HE.out,Bool.false_and]),bchain HW.out HBv.out⟩
    ·
     have q0 : (r.acct.toList == s.acct.toList) = false := beq_eq_false_iff_ne.2 fun h => e0 (txt_ext (by rw [← tl,← tl]; exact h))
     have HE : Hid (eqB r s = false) := Lib.hid (decide_eq_false fun h => e0 h.1)
     clear e0
     go_wp2
     refine wp_region_quiet_below (by kernel_rfl) (by kernel_rfl) ?_
     repeat (first | go_big_quiet_step (fail) | quiet_step (fail))
     refine wpQuiet_nil ?_
     intro _ hw'
     obtain ⟨⟨dq,osq⟩,hw''⟩ := hw'
     subst hw''
     have HBv := Lib.hid (bchain HBz.out (below_regrown wr dq osq))
     go_wp2
     go_ret
     exact ⟨ret_bool (by rw [← HK.out,HSt.out,HE.out,Bool.false_and]),bchain HW.out HBv.out⟩
   ·
    obtain rfl : k = n := by omega
    go_wp2
    go_ret
    refine ⟨ret_bool ?_,HW.out.trans (HBz.out.mono HW.out.size)⟩
    rw [← HK.out,List.drop_eq_nil_of_le (Nat.le_of_eq HN.out.symm),List.drop_eq_nil_of_le (Nat.le_of_eq HM.out.symm)]
    rfl
 ·
  have HE := Lib.hid (sameB_len (l := xs) (m := ys) (by rw [← HN.out,← HM.out]; exact hnm))
  have hne : ((n : Int) != (m : Int)) = true := bne_iff_ne.2 (by omega)
  go_enter Tryz.func77,Tryz.ntmps77
  go_wp2
  go_ret
  exact ⟨ret_bool HE.out.symm,HW.out⟩
end Go.Proofs.YtjpfpojbalepeaaGreat.Ba
namespace Go.Proofs.YtjpfpojbalepeaaGreat
open Go.RowKit
open Mem
open Go.Sort (grow)
theorem Bl.flat_take {ps : List Bl.Ps} {k : Nat} (h : k < ps.length) : Bl.flat (ps.take (k + 1)) = Bl.flat (ps.take k) ++ Po.entrL ps[k].tot.gross ps[k].tot.parts := by
 unfold Bl.flat
 rw [List.take_succ_eq_append_getElem h,List.flatMap_append,List.flatMap_cons,List.flatMap_nil,List.append_nil]
theorem Bl.flat_len : ∀ {ps : List Bl.Ps},Bl.EachR ps → (Bl.flat ps).length ≤ 25 * ps.length
 | [],_ => Nat.le_refl _
 | p :: l,h => by
  have h1 := Bl.flat_len (ps := l) fun q hq => h q (by simp [hq])
  have h2 := Po.entrL_len p.tot.gross p.tot.parts
  have h3 := (h p (by simp)).2.few
  have e : Bl.flat (p :: l) = Po.entrL p.tot.gross p.tot.parts ++ Bl.flat l := rfl
  rw [e,List.length_append,List.length_cons]
  omega
theorem Bl.eachR_take {ps : List Bl.Ps} (h : Bl.EachR ps) (k : Nat) : Bl.EachR (ps.take k) := fun p hp => h p (List.mem_of_mem_take hp)
set_option maxHeartbeats 8000000 in
theorem bil_booked (ps : List Bl.Ps) (bs : List Ba.T) (rs : List Pd.T) (ao bo : Option Addr) (n cap nb cb : Nat) (w0 w : World) (hw : Below w0.heap.size w0 w) (hL : Pd.Ls w ao n cap rs) (hE : Bl.Each w rs ps) (hB : Ba.Ls w bo nb cb bs) (hR : Bl.EachR ps) (hn : n ≤ 40) :
  Calls Tryz.prog 34 #[.slice ao n cap,.slice bo nb cb] w (Bl.YesE w0 (Bl.BookR ps bs)) := by
 have HW := Lib.hid hw
 have HL := Lib.hid hL
 have HN := Lib.hid hL.len
 have HE := Lib.hid hE
 have HBk := Lib.hid hB
 have HR := Lib.hid hR
 have hcap := hL.reach
 have hfit := hL.fits
 have hcb := hB.reach
 have hfb := hB.fits
 clear hL hw hE hB hR
 go_enter Tryz.func34,Tryz.ntmps34
 go_wp2_with fail
 go_loopw [5,7,8,9,14] (fun t _ _ _ j wr => ∃ (k : Nat) (vo : Option Addr) (q vc : Nat),k ≤ n ∧ j = .int .i64 k ∧ t = .slice vo q vc ∧ Hid (∀ p ∈ ps.take k,Po.entrE p.tot.parts = 0) ∧ Hid (Below w.heap.size w wr) ∧ Hid (Ba.Own wr w.heap.size (.slice vo q vc) (Bl.flat (ps.take k))) ∧ Hid (∀ r ∈ Bl.flat (ps.take k),Ba.Short r)) (fun _ _ _ _ j _ => n - (intOf j).toNat)
 case atStart => exact ⟨0,none,0,0,by omega,rfl,rfl,Lib.hid (fun _ h => by cases h),Lib.hid (Below.refl _ _),Lib.hid (Ba.own_nil w _),Lib.hid (fun _ h => by cases h)⟩
 case round =>
  obtain ⟨k,vo,q,vc,hk,rfl,rfl,HT,HB,HO,HS0⟩ := hrel
  by_cases hlt : k < n
  ·
   obtain ⟨b,off,rfl⟩ := HL.out.at (by omega)
   have hkl : k < rs.length := HN.out ▸ hlt
   have hkp : k < ps.length := HE.out.len ▸ hkl
   have hrow := (HL.out.row k hkl).below HB.out
   have HSh := Lib.hid (HL.out.short _ (List.getElem_mem hkl))
   have hI := HE.out.each k hkl
   have HMe := Lib.hid (List.getElem_mem hkp)
   have HS := Lib.hid (List.take_succ_eq_append_getElem hkp)
   have HF := Lib.hid (Bl.flat_take hkp)
   have HTo := Lib.hid (HR.out _ (List.getElem_mem hkp)).2
   have HFl : Hid ((Bl.flat (ps.take k)).length ≤ 1000) := Lib.hid (by
    have h1 := Bl.flat_len (Bl.eachR_take HR.out k)
    rw [List.length_take] at h1
    omega)
   obtain ⟨r,hr⟩ : ∃ r,rs[k] = r := ⟨_,rfl⟩
   obtain ⟨p,hp⟩ : ∃ p,ps[k] = p := ⟨_,rfl⟩
   rw [hr] at hrow hI HSh
   rw [hp] at hI HS HMe HF HTo
   clear hr hp
   have hA := Pd.c_box wr r
   have hbW := Pd.below_own wr r
   have HBW := Lib.hid (bchain HB.out hbW)
   have HOW := Lib.hid (Ba.own_below HO.out hbW)
   have HI := Lib.hid (hI.below (bchain HB.out hbW))
   unfold Pd.C at hA
   obtain ⟨a0,a1,a2,a3,a4,a5,a6,a7,a8,a9,a10,a11⟩ := hA
   have HG : Hid (Fit p.tot.gross) := Lib.hid (HI.out.gross ▸ HSh.out.2.2.2.2.2.2.2.1)
   have HEn : Hid (Calls Tryz.prog 75 #[.agg #[.int .i64 r.net,.int .i64 r.tax,.int .i64 r.gross,.slice r.parts.ao r.parts.n r.parts.cap]] (Pd.box wr r) (EntrE (Pd.box wr r) p.tot.gross p.tot.parts)) := Lib.hid (by
    rw [HI.out.net,HI.out.tax,HI.out.gross]
    exact post_entries p.tot.net p.tot.tax p.tot.gross p.tot.parts r.parts.ao r.parts.n r.parts.cap (Pd.box wr r) HI.out.parts HG.out (by have h1 := HI.out.parts.len; have h2 := HTo.out.few; omega) HTo.out.small)
   have HPs := Lib.hid (Po.entrR_short HG.out HI.out.parts.short HTo.out.small)
   have HEL : Hid ((Po.entrL p.tot.gross p.tot.parts).length ≤ 25) := Lib.hid (by
    have h1 := Po.entrL_len p.tot.gross p.tot.parts
    have h2 := HTo.out.few
    omega)
   clear hI hbW HO
   go_wp2_with (first | ((with_reducible apply Pd.wpl_load hrow); rfl; rfl; rfl) | ((with_reducible apply Pd.wpl_store (r := r) (g := wr.heap.size)); rfl; rfl; rfl; rfl; rfl; rfl))
   refine HEn.out.mono ?_
   rintro e w1 ⟨v,rfl,o1,b1⟩
   have HB1 := Lib.hid (bchain HBW.out b1)
   have HO1 := Lib.hid (Ba.own_below HOW.out b1)
   clear b1 a0 a1 a2 a3 a4 a5 a6 a7 a8 a9 a10 a11 hrow HEn
   by_cases h0 : Po.entrE p.tot.parts = 0
   ·
    have hRR : Po.entrR p.tot.gross p.tot.parts = Po.entrL p.tot.gross p.tot.parts := if_pos h0
    have HE0 := Lib.hid h0
    rw [hRR] at o1 HPs
    rw [h0]
    clear hRR h0
    obtain ⟨L,hL⟩ : ∃ L,Po.entrL p.tot.gross p.tot.parts = L := ⟨_,rfl⟩
    rw [hL] at o1 HPs HEL HF
    clear hL
    obtain ⟨lo,lc,rfl,l1,_⟩ := Ba.own_ls o1 HPs.out
    have HL1 := Lib.hid l1
    have HLn := Lib.hid l1.len
    obtain ⟨m,hm⟩ : ∃ m,L.length = m := ⟨_,rfl⟩
    rw [hm] at HL1 HLn HEL ⊢
    have HM := Lib.hid hm
    clear hm o1 l1
    go_wp2_with (at_builtin; go_must (refine Ba.wpList_append _ rfl (.tmp 26) (.tmp 27) rfl w.heap.size (.slice vo q vc) (Bl.flat (ps.take k)) rfl HO1.out lo m lc L rfl HM.out.symm HL1.out.nil HL1.out.seg (by have := HFl.out; have := HEL.out; omega) HB1.out.size ?_))
    intro v2 w2 o2 gr2 _
    have HB2 : Hid (Below w.heap.size w w2) := Lib.hid (HB1.out.grown gr2 HB1.out.size (Ba.own_ge HO1.out))
    obtain ⟨va,q2,vc2,hv⟩ := own_slice o2
    subst hv
    have HO2 := Lib.hid o2
    clear gr2 o2
    go_wp2_with fail
    go_roundw
    case rel =>
     refine ⟨k + 1,va,q2,vc2,by omega,by go_num,rfl,Lib.hid ?_,HB2,Lib.hid ?_,Lib.hid ?_⟩
     ·
      rw [HS.out]
      intro y hy
      rcases List.mem_append.1 hy with h | h
      · exact HT.out y h
      ·
       rw [List.mem_singleton.1 h]
       exact HE0.out
     ·
      rw [HF.out]
      exact HO2.out
     ·
      rw [HF.out]
      intro y hy
      rcases List.mem_append.1 hy with h | h
      · exact HS0.out y h
      · exact HPs.out y h
    case measure => simp [intOf]; omega
   ·
    have hq : (Po.entrE p.tot.parts == 0) = false := beq_eq_false_iff_ne.2 h0
    have HNo : Hid (¬ Bl.BookR ps bs) := Lib.hid fun z => h0 (z.entr p HMe.out)
    obtain ⟨E,hE⟩ : ∃ E,Po.entrE p.tot.parts = E := ⟨_,rfl⟩
    rw [hE] at hq ⊢
    clear hE h0 o1
    go_wp2_with fail
    go_ret
    exact ⟨.inr ⟨HNo.out,rfl⟩,bchain HW.out HB1.out⟩
  ·
   obtain rfl : k = n := by omega
   have e0 : ps.take k = ps := List.take_of_length_le (by rw [HN.out,HE.out.len]; exact Nat.le_refl _)
   rw [e0] at HT HO HS0
   have HFl : Hid ((Bl.flat ps).length ≤ 1000) := Lib.hid (by
    have h1 := Bl.flat_len HR.out
    have h2 := HN.out
    have h3 := HE.out.len
    omega)
   clear e0
   obtain ⟨L,hL⟩ : ∃ L,Bl.flat ps = L := ⟨_,rfl⟩
   have HFL := Lib.hid hL
   rw [hL] at HO HS0 HFl
   clear hL
   obtain ⟨lo,lc,e,l1,_⟩ := Ba.own_ls HO.out HS0.out
   simp only [Value.slice.injEq] at e
   obtain ⟨e1,e2,e3⟩ := e
   subst e1 e3
   rw [← e2] at l1
   have HL1 := Lib.hid l1
   have HQ : Hid (q ≤ 1000) := Lib.hid (by have := HFl.out; omega)
   clear l1 e2
   go_wp2_with fail
   refine (post_enter [] L none vo 0 0 q vc wr (Ba.ls_nil _) HL1.out (by omega) HQ.out).mono ?_
   rintro e w1 ⟨v,rfl,o1,b1⟩
   have HB1 := Lib.hid (bchain HB.out b1)
   have HSB := Lib.hid (Po.entL_short (fun r (h : r ∈ ([] : List Ba.T)) => by cases h) HS0.out)
   clear b1
   by_cases h0 : Po.entE [] L = 0
   ·
    have hLL : Po.entL [] L = Po.goL L [] := if_pos h0
    have HE0 := Lib.hid h0
    rw [h0]
    rw [hLL] at o1 HSB
    clear h0 hLL
    obtain ⟨C,hC⟩ : ∃ C,Po.goL L [] = C := ⟨_,rfl⟩
    rw [hC] at o1 HSB
    have HC := Lib.hid hC
    clear hC
    obtain ⟨co,cc,rfl,l2,_⟩ := Ba.own_ls o1 HSB.out
    have HL2 := Lib.hid l2
    obtain ⟨m,hm⟩ : ∃ m,C.length = m := ⟨_,rfl⟩
    rw [hm] at HL2 ⊢
    clear hm o1 l2
    go_wp2_with fail
    refine (Ba.equal_any C bs co bo m nb cc cb w1 w1 (Below.refl _ _) HL2.out (HBk.out.below HB1.out)).mono ?_
    rintro e w2 ⟨rfl,b2⟩
    have HB2 := Lib.hid (bchain HB1.out b2)
    clear b2
    cases hs : Ba.sameB C bs
    ·
     have HNo : Hid (¬ Bl.BookR ps bs) := Lib.hid fun z => by
      have h := z.book
      rw [HFL.out,HC.out] at h
      rw [h,Ba.sameB_self] at hs
      cases hs
     clear hs
     go_wp2_with fail
     go_ret
     exact ⟨.inr ⟨HNo.out,rfl⟩,bchain HW.out HB2.out⟩
    ·
     have HYes : Hid (Bl.BookR ps bs) := Lib.hid ⟨HT.out,by rw [HFL.out]; exact HE0.out,by rw [HFL.out,HC.out]; exact (Ba.sameB_iff _ _).1 hs⟩
     clear hs
     go_wp2_with fail
     go_ret
     exact ⟨.inl ⟨HYes.out,rfl⟩,bchain HW.out HB2.out⟩
   ·
    have hq : (Po.entE [] L == 0) = false := beq_eq_false_iff_ne.2 h0
    have HNo : Hid (¬ Bl.BookR ps bs) := Lib.hid fun z => h0 (by have h := z.entE; rw [HFL.out] at h; exact h)
    obtain ⟨E,hE⟩ : ∃ E,Po.entE [] L = E := ⟨_,rfl⟩
    rw [hE] at hq ⊢
    clear hE h0 o1
    go_wp2_with fail
    go_ret
    exact ⟨.inr ⟨HNo.out,rfl⟩,bchain HW.out HB1.out⟩
end Go.Proofs.YtjpfpojbalepeaaGreat
namespace Go.Proofs.YtjpfpojbalepeaaGreat
open Go.RowKit
open Mem
open Go.Sort (grow)
set_option maxHeartbeats 8000000 in
theorem bil_right_any (s : Bl.St) (h : Bl.Sv) (w0 w : World) (hw : Below w0.heap.size w0 w) (hL : Bl.Lies w h s) :
  Calls Tryz.prog 14 #[h.val] w (Bl.YesE w0 (Bl.Right s)) := by
 have HW := Lib.hid hw
 have HL := Lib.hid hL
 have HX := Lib.hid hL.next
 obtain ⟨rs,hP,hE⟩ := hL.post
 have HP := Lib.hid hP
 have HE := Lib.hid hE
 have HN : Hid (h.post.n = s.post.length) := Lib.hid (by have := hP.len; have := hE.len; omega)
 have hcap := hP.reach
 have hfit := hP.fits
 obtain ⟨U,hU⟩ : ∃ U,w.alloc (.cells #[.slice h.tab.ao h.tab.n h.tab.cap,.slice h.ser.ao h.ser.n h.ser.cap,.slice h.post.ao h.post.n h.post.cap,.slice h.book.ao h.book.n h.book.cap,.slice h.sess.ao h.sess.n h.sess.cap,.int .i64 h.next] 42) = U := ⟨_,rfl⟩
 obtain ⟨hB,k0,hs⟩ := Bl.al1 w (.cells #[.slice h.tab.ao h.tab.n h.tab.cap,.slice h.ser.ao h.ser.n h.ser.cap,.slice h.post.ao h.post.n h.post.cap,.slice h.book.ao h.book.n h.book.cap,.slice h.sess.ao h.sess.n h.sess.cap,.int .i64 h.next] 42)
 rw [hU] at hB k0 hs
 have hA : Bl.At U w.heap.size h := k0
 have HA0 := Lib.hid hA
 have HB0 := Lib.hid hB
 obtain ⟨x0,x1,x2,x3,x4,x5⟩ := hA.cells
 clear k0 hL hP hE hw hB hs hA
 unfold Bl.Sv.val Bl.sl
 go_enter Tryz.func14,Tryz.ntmps14
 go_wp2_with fail
 clear hU
 refine (vat_right s.tab h.tab.ao h.tab.n h.tab.cap U U (Below.refl _ _) (HL.out.tab.below HB0.out)).mono ?_
 rintro e w1 ⟨rfl,b1⟩
 have HB1 := Lib.hid (bchain HB0.out b1)
 have HA1 := Lib.hid (HA0.out.below b1)
 clear b1 x0 x1 x2 x3 x4 x5
 cases hq : Vt.tableB s.tab
 ·
  have HNo : Hid (¬ Bl.Right s) := Lib.hid fun z => by have l := ((Bl.landed_iff s).2 z).tab; rw [hq] at l; cases l
  clear hq
  go_wp2_with fail
  go_ret
  exact ⟨.inr ⟨HNo.out,rfl⟩,bchain HW.out HB1.out⟩
 ·
  have HQ1 := Lib.hid hq
  clear hq
  obtain ⟨x0,x1,x2,x3,x4,x5⟩ := HA1.out.cells
  go_wp2_with fail
  refine (ser_right s.ser h.ser.ao h.ser.n h.ser.cap w1 w1 (Below.refl _ _) (HL.out.ser.below HB1.out)).mono ?_
  rintro e w2 ⟨rfl,b2⟩
  have HB2 := Lib.hid (bchain HB1.out b2)
  have HA2 := Lib.hid (HA1.out.below b2)
  clear b2 x0 x1 x2 x3 x4 x5
  cases hq : Se.rightB s.ser
  ·
   have HNo : Hid (¬ Bl.Right s) := Lib.hid fun z => by have l := ((Bl.landed_iff s).2 z).ser; rw [hq] at l; cases l
   clear hq
   go_wp2_with fail
   go_ret
   exact ⟨.inr ⟨HNo.out,rfl⟩,bchain HW.out HB2.out⟩
  ·
   have HQ2 := Lib.hid hq
   clear hq
   obtain ⟨x0,x1,x2,x3,x4,x5⟩ := HA2.out.cells
   go_wp2_with fail
   refine (bil_attended s.sess h.next h.sess.ao h.sess.n h.sess.cap w2 w2 (Below.refl _ _) (HL.out.sess.below HB2.out)).mono ?_
   rintro e w3 ⟨hcase,b3⟩
   have HB3 := Lib.hid (bchain HB2.out b3)
   have HA3 := Lib.hid (HA2.out.below b3)
   clear b3 x0 x1 x2 x3 x4 x5
   rcases hcase with ⟨hyes,rfl⟩ | ⟨hno,rfl⟩
   ·
    have HQ3 := Lib.hid hyes
    clear hyes
    obtain ⟨x0,x1,x2,x3,x4,x5⟩ := HA3.out.cells
    by_cases h40 : h.post.n ≤ 40
    ·
     have d4 : decide ((h.post.n : Int) ≤ 40) = true := decide_eq_true (by omega)
     have H40 := Lib.hid h40
     clear h40
     go_wp2_with fail
     clear d4
     refine (bil_numbered s.post rs s.ser h.post.ao h.ser.ao h.post.n h.post.cap h.ser.n h.ser.cap w3 w3 (Below.refl _ _) (HP.out.below HB3.out) (HE.out.below HB3.out) (HL.out.ser.below HB3.out) HQ2.out (by have := H40.out; omega)).mono ?_
     rintro e w4 ⟨hcase,b4⟩
     have HB4 := Lib.hid (bchain HB3.out b4)
     have HA4 := Lib.hid (HA3.out.below b4)
     clear b4 x0 x1 x2 x3 x4 x5
     rcases hcase with ⟨hyes,rfl⟩ | ⟨hno,rfl⟩
     ·
      have HQ4 := Lib.hid hyes
      clear hyes
      obtain ⟨x0,x1,x2,x3,x4,x5⟩ := HA4.out.cells
      go_wp2_with fail
      refine (bil_reckoned s.post rs h.post.ao h.post.n h.post.cap w4 w4 (Below.refl _ _) (HP.out.below HB4.out) (HE.out.below HB4.out)).mono ?_
      rintro e w5 ⟨hcase,b5⟩
      have HB5 := Lib.hid (bchain HB4.out b5)
      have HA5 := Lib.hid (HA4.out.below b5)
      clear b5 x0 x1 x2 x3 x4 x5
      rcases hcase with ⟨hyes,rfl⟩ | ⟨hno,rfl⟩
      ·
       have HQ5 := Lib.hid hyes
       clear hyes
       obtain ⟨x0,x1,x2,x3,x4,x5⟩ := HA5.out.cells
       go_wp2_with fail
       refine (bil_credited s.post rs h.post.ao h.post.n h.post.cap w5 w5 (Below.refl _ _) (HP.out.below HB5.out) (HE.out.below HB5.out) HQ5.out).mono ?_
       rintro e w6 ⟨hcase,b6⟩
       have HB6 := Lib.hid (bchain HB5.out b6)
       have HA6 := Lib.hid (HA5.out.below b6)
       clear b6 x0 x1 x2 x3 x4 x5
       rcases hcase with ⟨hyes,rfl⟩ | ⟨hno,rfl⟩
       ·
        have HQ6 := Lib.hid hyes
        clear hyes
        obtain ⟨x0,x1,x2,x3,x4,x5⟩ := HA6.out.cells
        go_wp2_with fail
        refine (bil_booked s.post s.book rs h.post.ao h.book.ao h.post.n h.post.cap h.book.n h.book.cap w6 w6 (Below.refl _ _) (HP.out.below HB6.out) (HE.out.below HB6.out) (HL.out.book.below HB6.out) HQ5.out H40.out).mono ?_
        rintro e w7 ⟨hcase,b7⟩
        have HB7 := Lib.hid (bchain HB6.out b7)
        have HA7 := Lib.hid (HA6.out.below b7)
        clear b7 x0 x1 x2 x3 x4 x5
        rcases hcase with ⟨hyes,rfl⟩ | ⟨hno,rfl⟩
        ·
         have HQ7 := Lib.hid hyes
         clear hyes
         have HYes : Hid (Bl.Right s) := Lib.hid ((Bl.landed_iff s).1 (by have a3 := HQ3.out; rw [HX.out] at a3; exact ⟨HQ1.out,HQ2.out,a3.1,a3.2.1,a3.2.2,by have := H40.out; have := HN.out; omega,HQ4.out,HQ5.out,HQ6.out,HQ7.out⟩))
         go_wp2_with fail
         go_ret
         exact ⟨.inl ⟨HYes.out,rfl⟩,bchain HW.out HB7.out⟩
        ·
         have HNo : Hid (¬ Bl.Right s) := Lib.hid fun z => hno ((Bl.landed_iff s).2 z).book
         clear hno
         go_wp2_with fail
         go_ret
         exact ⟨.inr ⟨HNo.out,rfl⟩,bchain HW.out HB7.out⟩
       ·
        have HNo : Hid (¬ Bl.Right s) := Lib.hid fun z => hno ((Bl.landed_iff s).2 z).cred
        clear hno
        go_wp2_with fail
        go_ret
        exact ⟨.inr ⟨HNo.out,rfl⟩,bchain HW.out HB6.out⟩
      ·
       have HNo : Hid (¬ Bl.Right s) := Lib.hid fun z => hno ((Bl.landed_iff s).2 z).each
       clear hno
       go_wp2_with fail
       go_ret
       exact ⟨.inr ⟨HNo.out,rfl⟩,bchain HW.out HB5.out⟩
     ·
      have HNo : Hid (¬ Bl.Right s) := Lib.hid fun z => hno ((Bl.landed_iff s).2 z).num
      clear hno
      go_wp2_with fail
      go_ret
      exact ⟨.inr ⟨HNo.out,rfl⟩,bchain HW.out HB4.out⟩
    ·
     have d4 : decide ((h.post.n : Int) ≤ 40) = false := decide_eq_false (by omega)
     have HNo : Hid (¬ Bl.Right s) := Lib.hid fun z => h40 (by have l := ((Bl.landed_iff s).2 z).few; have := HN.out; omega)
     clear h40
     go_wp2_with fail
     go_ret
     exact ⟨.inr ⟨HNo.out,rfl⟩,bchain HW.out HB3.out⟩
   ·
    have HNo : Hid (¬ Bl.Right s) := Lib.hid fun z => hno (by have l := (Bl.landed_iff s).2 z; rw [HX.out]; exact ⟨l.next,l.sess,l.ids⟩)
    clear hno
    go_wp2_with fail
    go_ret
    exact ⟨.inr ⟨HNo.out,rfl⟩,bchain HW.out HB3.out⟩
end Go.Proofs.YtjpfpojbalepeaaGreat
namespace Go.Proofs.YtjpfpojbalepeaaGreat
open Go.RowKit
open Mem
def Sr.CopyE (w : World) (ao : Option Addr) (n : Nat) (rs : List Sr.T) (e : Ending) (w' : World) : Prop := (ao = none ∧ e = .returned (.slice none 0 0) ∧ w' = w) ∨ (e = .returned (.slice (some ⟨w.heap.size,0,none⟩) n n) ∧ Sr.Block w' w.heap.size rs ∧ Below w.heap.size w w')
set_option maxHeartbeats 2000000 in
theorem bil_copiedSr (rs : List Sr.T) (ao : Option Addr) (n cap : Nat) (w : World) (hR : Sr.Ls w ao n cap rs) (hn : n ≤ 1000) :
  Calls Tryz.prog 60 #[.slice ao n cap] w (Sr.CopyE w ao n rs) := by
 rcases ao with _ | ad
 ·
  have hz := hR.nil rfl
  have hz2 := hR.fits
  obtain rfl : n = 0 := by omega
  clear hR hz hz2
  have hnil : ∀ u : World,(binOp .eql 37 (.slice none 0 cap) (.slice none 0 0)).run Tryz.prog u = .ok (.bool true) u := fun u => by kernel_rfl
  go_enter Tryz.func60,Tryz.ntmps60
  go_wp2_with fail
  go_ret
  exact .inl ⟨rfl,rfl,rfl⟩
 ·
  have HR := Lib.hid hR
  have hcap := hR.reach
  have hfit := hR.fits
  have hmk := Sr.make n (by omega)
  have hblk0 := Sr.block_made w n
  have hbel0 : Below w.heap.size w (w.alloc (.cells (Sr.zeros n) 90)) := (Below.refl _ _).alloc (Nat.le_refl _) _
  obtain ⟨W1,hcp,hblk,hbel,hsz⟩ := Sr.copy (w.alloc (.cells (Sr.zeros n) 90)) w.heap.size [] n (some ad) n cap rs (by rw [List.append_nil]; exact hblk0) hR.len ((hR.below hbel0).seg)
  rw [List.length_nil,Nat.add_zero] at hcp
  rw [List.append_nil] at hblk
  have HB1 := Lib.hid (hbel _ _ hbel0 (Nat.le_refl _))
  have HBk := Lib.hid hblk
  clear hblk hbel hblk0 hbel0 hR
  have hnil : ∀ u : World,(binOp .eql 37 (.slice (some ad) n cap) (.slice none 0 0)).run Tryz.prog u = .ok (.bool false) u := fun u => by kernel_rfl
  go_enter Tryz.func60,Tryz.ntmps60
  go_wp2
  go_ret
  exact .inr ⟨rfl,HBk.out,HB1.out⟩
theorem Sr.CopyE.ls {w w' : World} {ao : Option Addr} {n cap : Nat} {rs : List Sr.T} {e : Ending} (h : Sr.CopyE w ao n rs e w') (hR : Sr.Ls w ao n cap rs) : ∃ bo c,e = .returned (.slice bo n c) ∧ Sr.Ls w' bo n c rs ∧ InA w.heap.size bo n ∧ Below w.heap.size w w' := by
 rcases h with ⟨rfl,rfl,rfl⟩ | ⟨rfl,hb,hk⟩
 ·
  have hq := hR.nil rfl
  have hq2 := hR.fits
  obtain rfl : n = 0 := by omega
  have hz : rs = [] := List.eq_nil_of_length_eq_zero hR.len.symm
  subst hz
  exact ⟨none,0,rfl,Sr.ls_nil _,inA_nil _ _,Below.refl _ _⟩
 · refine ⟨_,n,rfl,Sr.Block.ls (zs := []) (by rw [List.append_nil]; exact hb) n n hR.len (Nat.le_refl _) (by have := hR.fits; have := hR.reach; omega) hR.short,inA_own fun ad e => ⟨w.heap.size,by cases e; rfl,Nat.le_refl _⟩,hk⟩
def Pd.CopyE (w : World) (ao : Option Addr) (n : Nat) (rs : List Pd.T) (e : Ending) (w' : World) : Prop := (ao = none ∧ e = .returned (.slice none 0 0) ∧ w' = w) ∨ (e = .returned (.slice (some ⟨w.heap.size,0,none⟩) n n) ∧ Pd.Block w' w.heap.size rs ∧ Below w.heap.size w w')
set_option maxHeartbeats 2000000 in
theorem bil_copiedPd (rs : List Pd.T) (ao : Option Addr) (n cap : Nat) (w : World) (hR : Pd.Ls w ao n cap rs) (hn : n ≤ 1000) :
  Calls Tryz.prog 61 #[.slice ao n cap] w (Pd.CopyE w ao n rs) := by
 rcases ao with _ | ad
 ·
  have hz := hR.nil rfl
  have hz2 := hR.fits
  obtain rfl : n = 0 := by omega
  clear hR hz hz2
  have hnil : ∀ u : World,(binOp .eql 38 (.slice none 0 cap) (.slice none 0 0)).run Tryz.prog u = .ok (.bool true) u := fun u => by kernel_rfl
  go_enter Tryz.func61,Tryz.ntmps61
  go_wp2_with fail
  go_ret
  exact .inl ⟨rfl,rfl,rfl⟩
 ·
  have HR := Lib.hid hR
  have hcap := hR.reach
  have hfit := hR.fits
  have hmk := Pd.make n (by omega)
  have hblk0 := Pd.block_made w n
  have hbel0 : Below w.heap.size w (w.alloc (.cells (Pd.zeros n) 66)) := (Below.refl _ _).alloc (Nat.le_refl _) _
  obtain ⟨W1,hcp,hblk,hbel,hsz⟩ := Pd.copy (w.alloc (.cells (Pd.zeros n) 66)) w.heap.size [] n (some ad) n cap rs (by rw [List.append_nil]; exact hblk0) hR.len ((hR.below hbel0).seg)
  rw [List.length_nil,Nat.add_zero] at hcp
  rw [List.append_nil] at hblk
  have HB1 := Lib.hid (hbel _ _ hbel0 (Nat.le_refl _))
  have HBk := Lib.hid hblk
  clear hblk hbel hblk0 hbel0 hR
  have hnil : ∀ u : World,(binOp .eql 38 (.slice (some ad) n cap) (.slice none 0 0)).run Tryz.prog u = .ok (.bool false) u := fun u => by kernel_rfl
  go_enter Tryz.func61,Tryz.ntmps61
  go_wp2
  go_ret
  exact .inr ⟨rfl,HBk.out,HB1.out⟩
def Pt.CopyE (w : World) (ao : Option Addr) (n : Nat) (rs : List Pt.T) (e : Ending) (w' : World) : Prop := (ao = none ∧ e = .returned (.slice none 0 0) ∧ w' = w) ∨ (e = .returned (.slice (some ⟨w.heap.size,0,none⟩) n n) ∧ Pt.Block w' w.heap.size rs ∧ Below w.heap.size w w')
set_option maxHeartbeats 2000000 in
theorem bil_copiedPt (rs : List Pt.T) (ao : Option Addr) (n cap : Nat) (w : World) (hR : Pt.Ls w ao n cap rs) (hn : n ≤ 1000) :
  Calls Tryz.prog 62 #[.slice ao n cap] w (Pt.CopyE w ao n rs) := by
 rcases ao with _ | ad
 ·
  have hz := hR.nil rfl
  have hz2 := hR.fits
  obtain rfl : n = 0 := by omega
  clear hR hz hz2
  have hnil : ∀ u : World,(binOp .eql 62 (.slice none 0 cap) (.slice none 0 0)).run Tryz.prog u = .ok (.bool true) u := fun u => by kernel_rfl
  go_enter Tryz.func62,Tryz.ntmps62
  go_wp2_with fail
  go_ret
  exact .inl ⟨rfl,rfl,rfl⟩
 ·
  have HR := Lib.hid hR
  have hcap := hR.reach
  have hfit := hR.fits
  have hmk := Pt.make n (by omega)
  have hblk0 := Pt.block_made w n
  have hbel0 : Below w.heap.size w (w.alloc (.cells (Pt.zeros n) 105)) := (Below.refl _ _).alloc (Nat.le_refl _) _
  obtain ⟨W1,hcp,hblk,hbel,hsz⟩ := Pt.copy (w.alloc (.cells (Pt.zeros n) 105)) w.heap.size [] n (some ad) n cap rs (by rw [List.append_nil]; exact hblk0) hR.len ((hR.below hbel0).seg)
  rw [List.length_nil,Nat.add_zero] at hcp
  rw [List.append_nil] at hblk
  have HB1 := Lib.hid (hbel _ _ hbel0 (Nat.le_refl _))
  have HBk := Lib.hid hblk
  clear hblk hbel hblk0 hbel0 hR
  have hnil : ∀ u : World,(binOp .eql 62 (.slice (some ad) n cap) (.slice none 0 0)).run Tryz.prog u = .ok (.bool false) u := fun u => by kernel_rfl
  go_enter Tryz.func62,Tryz.ntmps62
  go_wp2
  go_ret
  exact .inr ⟨rfl,HBk.out,HB1.out⟩
theorem Pt.CopyE.ls {w w' : World} {ao : Option Addr} {n cap : Nat} {rs : List Pt.T} {e : Ending} (h : Pt.CopyE w ao n rs e w') (hR : Pt.Ls w ao n cap rs) : ∃ bo c,e = .returned (.slice bo n c) ∧ Pt.Ls w' bo n c rs ∧ InA w.heap.size bo n ∧ Below w.heap.size w w' := by
 rcases h with ⟨rfl,rfl,rfl⟩ | ⟨rfl,hb,hk⟩
 ·
  have hq := hR.nil rfl
  have hq2 := hR.fits
  obtain rfl : n = 0 := by omega
  have hz : rs = [] := List.eq_nil_of_length_eq_zero hR.len.symm
  subst hz
  exact ⟨none,0,rfl,Pt.ls_nil _,inA_nil _ _,Below.refl _ _⟩
 · refine ⟨_,n,rfl,Pt.Block.ls (zs := []) (by rw [List.append_nil]; exact hb) n n hR.len (Nat.le_refl _) (by have := hR.fits; have := hR.reach; omega) hR.short,inA_own fun ad e => ⟨w.heap.size,by cases e; rfl,Nat.le_refl _⟩,hk⟩
def Ba.CopyE (w : World) (ao : Option Addr) (n : Nat) (rs : List Ba.T) (e : Ending) (w' : World) : Prop := (ao = none ∧ e = .returned (.slice none 0 0) ∧ w' = w) ∨ (e = .returned (.slice (some ⟨w.heap.size,0,none⟩) n n) ∧ Ba.Block w' w.heap.size rs ∧ Below w.heap.size w w')
set_option maxHeartbeats 2000000 in
theorem bil_copiedBa (rs : List Ba.T) (ao : Option Addr) (n cap : Nat) (w : World) (hR : Ba.Ls w ao n cap rs) (hn : n ≤ 1000) :
  Calls Tryz.prog 63 #[.slice ao n cap] w (Ba.CopyE w ao n rs) := by
 rcases ao with _ | ad
 ·
  have hz := hR.nil rfl
  have hz2 := hR.fits
  obtain rfl : n = 0 := by omega
  clear hR hz hz2
  have hnil : ∀ u : World,(binOp .eql 39 (.slice none 0 cap) (.slice none 0 0)).run Tryz.prog u = .ok (.bool true) u := fun u => by kernel_rfl
  go_enter Tryz.func63,Tryz.ntmps63
  go_wp2_with fail
  go_ret
  exact .inl ⟨rfl,rfl,rfl⟩
 ·
  have HR := Lib.hid hR
  have hcap := hR.reach
  have hfit := hR.fits
  have hmk := Ba.make n (by omega)
  have hblk0 := Ba.block_made w n
  have hbel0 : Below w.heap.size w (w.alloc (.cells (Ba.zeros n) 94)) := (Below.refl _ _).alloc (Nat.le_refl _) _
  obtain ⟨W1,hcp,hblk,hbel,hsz⟩ := Ba.copy (w.alloc (.cells (Ba.zeros n) 94)) w.heap.size [] n (some ad) n cap rs (by rw [List.append_nil]; exact hblk0) hR.len ((hR.below hbel0).seg)
  rw [List.length_nil,Nat.add_zero] at hcp
  rw [List.append_nil] at hblk
  have HB1 := Lib.hid (hbel _ _ hbel0 (Nat.le_refl _))
  have HBk := Lib.hid hblk
  clear hblk hbel hblk0 hbel0 hR
  have hnil : ∀ u : World,(binOp .eql 39 (.slice (some ad) n cap) (.slice none 0 0)).run Tryz.prog u = .ok (.bool false) u := fun u => by kernel_rfl
  go_enter Tryz.func63,Tryz.ntmps63
  go_wp2
  go_ret
  exact .inr ⟨rfl,HBk.out,HB1.out⟩
theorem Ba.CopyE.ls {w w' : World} {ao : Option Addr} {n cap : Nat} {rs : List Ba.T} {e : Ending} (h : Ba.CopyE w ao n rs e w') (hR : Ba.Ls w ao n cap rs) : ∃ bo c,e = .returned (.slice bo n c) ∧ Ba.Ls w' bo n c rs ∧ InA w.heap.size bo n ∧ Below w.heap.size w w' := by
 rcases h with ⟨rfl,rfl,rfl⟩ | ⟨rfl,hb,hk⟩
 ·
  have hq := hR.nil rfl
  have hq2 := hR.fits
  obtain rfl : n = 0 := by omega
  have hz : rs = [] := List.eq_nil_of_length_eq_zero hR.len.symm
  subst hz
  exact ⟨none,0,rfl,Ba.ls_nil _,inA_nil _ _,Below.refl _ _⟩
 · refine ⟨_,n,rfl,Ba.Block.ls (zs := []) (by rw [List.append_nil]; exact hb) n n hR.len (Nat.le_refl _) (by have := hR.fits; have := hR.reach; omega) hR.short,inA_own fun ad e => ⟨w.heap.size,by cases e; rfl,Nat.le_refl _⟩,hk⟩
def Sn.CopyE (w : World) (ao : Option Addr) (n : Nat) (rs : List Sn.T) (e : Ending) (w' : World) : Prop := (ao = none ∧ e = .returned (.slice none 0 0) ∧ w' = w) ∨ (e = .returned (.slice (some ⟨w.heap.size,0,none⟩) n n) ∧ Sn.Block w' w.heap.size rs ∧ Below w.heap.size w w')
set_option maxHeartbeats 2000000 in
theorem bil_copiedSn (rs : List Sn.T) (ao : Option Addr) (n cap : Nat) (w : World) (hR : Sn.Ls w ao n cap rs) (hn : n ≤ 1000) :
  Calls Tryz.prog 64 #[.slice ao n cap] w (Sn.CopyE w ao n rs) := by
 rcases ao with _ | ad
 ·
  have hz := hR.nil rfl
  have hz2 := hR.fits
  obtain rfl : n = 0 := by omega
  clear hR hz hz2
  have hnil : ∀ u : World,(binOp .eql 40 (.slice none 0 cap) (.slice none 0 0)).run Tryz.prog u = .ok (.bool true) u := fun u => by kernel_rfl
  go_enter Tryz.func64,Tryz.ntmps64
  go_wp2_with fail
  go_ret
  exact .inl ⟨rfl,rfl,rfl⟩
 ·
  have HR := Lib.hid hR
  have hcap := hR.reach
  have hfit := hR.fits
  have hmk := Sn.make n (by omega)
  have hblk0 := Sn.block_made w n
  have hbel0 : Below w.heap.size w (w.alloc (.cells (Sn.zeros n) 82)) := (Below.refl _ _).alloc (Nat.le_refl _) _
  obtain ⟨W1,hcp,hblk,hbel,hsz⟩ := Sn.copy (w.alloc (.cells (Sn.zeros n) 82)) w.heap.size [] n (some ad) n cap rs (by rw [List.append_nil]; exact hblk0) hR.len ((hR.below hbel0).seg)
  rw [List.length_nil,Nat.add_zero] at hcp
  rw [List.append_nil] at hblk
  have HB1 := Lib.hid (hbel _ _ hbel0 (Nat.le_refl _))
  have HBk := Lib.hid hblk
  clear hblk hbel hblk0 hbel0 hR
  have hnil : ∀ u : World,(binOp .eql 40 (.slice (some ad) n cap) (.slice none 0 0)).run Tryz.prog u = .ok (.bool false) u := fun u => by kernel_rfl
  go_enter Tryz.func64,Tryz.ntmps64
  go_wp2
  go_ret
  exact .inr ⟨rfl,HBk.out,HB1.out⟩
theorem Sn.CopyE.ls {w w' : World} {ao : Option Addr} {n cap : Nat} {rs : List Sn.T} {e : Ending} (h : Sn.CopyE w ao n rs e w') (hR : Sn.Ls w ao n cap rs) : ∃ bo c,e = .returned (.slice bo n c) ∧ Sn.Ls w' bo n c rs ∧ InA w.heap.size bo n ∧ Below w.heap.size w w' := by
 rcases h with ⟨rfl,rfl,rfl⟩ | ⟨rfl,hb,hk⟩
 ·
  have hq := hR.nil rfl
  have hq2 := hR.fits
  obtain rfl : n = 0 := by omega
  have hz : rs = [] := List.eq_nil_of_length_eq_zero hR.len.symm
  subst hz
  exact ⟨none,0,rfl,Sn.ls_nil _,inA_nil _ _,Below.refl _ _⟩
 · refine ⟨_,n,rfl,Sn.Block.ls (zs := []) (by rw [List.append_nil]; exact hb) n n hR.len (Nat.le_refl _) (by have := hR.fits; have := hR.reach; omega) hR.short,inA_own fun ad e => ⟨w.heap.size,by cases e; rfl,Nat.le_refl _⟩,hk⟩
def Rt.CopyE (w : World) (ao : Option Addr) (n : Nat) (rs : List Vt.Rt) (e : Ending) (w' : World) : Prop := (ao = none ∧ e = .returned (.slice none 0 0) ∧ w' = w) ∨ (e = .returned (.slice (some ⟨w.heap.size,0,none⟩) n n) ∧ BlockR w' w.heap.size rs ∧ Below w.heap.size w w')
set_option maxHeartbeats 2000000 in
theorem bil_copiedRt (rs : List Vt.Rt) (ao : Option Addr) (n cap : Nat) (w : World) (hR : Rts w ao n cap rs) (hn : n ≤ 1000) :
  Calls Tryz.prog 59 #[.slice ao n cap] w (Rt.CopyE w ao n rs) := by
 rcases ao with _ | ad
 ·
  have hz := hR.nil rfl
  have hz2 := hR.fits
  obtain rfl : n = 0 := by omega
  clear hR hz hz2
  have hnil : ∀ u : World,(binOp .eql 36 (.slice none 0 cap) (.slice none 0 0)).run Tryz.prog u = .ok (.bool true) u := fun u => by kernel_rfl
  go_enter Tryz.func59,Tryz.ntmps59
  go_wp2_with fail
  go_ret
  exact .inl ⟨rfl,rfl,rfl⟩
 ·
  have HR := Lib.hid hR
  have hcap := hR.reach
  have hfit := hR.fits
  have hmk := make_rows n (by omega)
  have hblk0 := block_made w n
  have hbel0 : Below w.heap.size w (w.alloc (.cells (zerosR n) 25)) := (Below.refl _ _).alloc (Nat.le_refl _) _
  obtain ⟨W1,hcp,hblk,hbel,hsz⟩ := copy_rows (w.alloc (.cells (zerosR n) 25)) w.heap.size [] n (some ad) n cap rs (by rw [List.append_nil]; exact hblk0) hR.len ((hR.below hbel0).seg)
  rw [List.length_nil,Nat.add_zero] at hcp
  rw [List.append_nil] at hblk
  have HB1 := Lib.hid (hbel _ _ hbel0 (Nat.le_refl _))
  have HBk := Lib.hid hblk
  clear hblk hbel hblk0 hbel0 hR
  have hnil : ∀ u : World,(binOp .eql 36 (.slice (some ad) n cap) (.slice none 0 0)).run Tryz.prog u = .ok (.bool false) u := fun u => by kernel_rfl
  go_enter Tryz.func59,Tryz.ntmps59
  go_wp2
  go_ret
  exact .inr ⟨rfl,HBk.out,HB1.out⟩
theorem Rt.CopyE.ls {w w' : World} {ao : Option Addr} {n cap : Nat} {rs : List Vt.Rt} {e : Ending} (h : Rt.CopyE w ao n rs e w') (hR : Rts w ao n cap rs) : ∃ bo c,e = .returned (.slice bo n c) ∧ Rts w' bo n c rs ∧ InA w.heap.size bo n ∧ Below w.heap.size w w' := by
 rcases h with ⟨rfl,rfl,rfl⟩ | ⟨rfl,hb,hk⟩
 ·
  have hq := hR.nil rfl
  have hq2 := hR.fits
  obtain rfl : n = 0 := by omega
  have hz : rs = [] := List.eq_nil_of_length_eq_zero hR.len.symm
  subst hz
  exact ⟨none,0,rfl,(fun W => (⟨rfl,Nat.le_refl _,by show (0 : Nat) ≤ _; omega,fun _ => rfl,.inl rfl,by intro r hr; cases hr⟩ : Rts W none 0 0 [])) _,inA_nil _ _,Below.refl _ _⟩
 · refine ⟨_,n,rfl,BlockR.rts (zs := []) (by rw [List.append_nil]; exact hb) n n hR.len (Nat.le_refl _) (by have := hR.fits; have := hR.reach; omega) hR.short,inA_own fun ad e => ⟨w.heap.size,by cases e; rfl,Nat.le_refl _⟩,hk⟩
end Go.Proofs.YtjpfpojbalepeaaGreat
