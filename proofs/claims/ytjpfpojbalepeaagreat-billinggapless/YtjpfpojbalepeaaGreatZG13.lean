import Derived.Maps.AppendAt
import Derived.Laws.AppendOwnNone
import Derived.Laws.Rows
import Derived.RegionTactic
import Derived.Laws.CopyOwn
import Derived.Laws.MakeOwn
import Derived.Test.YtjpfpojbalepeaaGreatZG3
import Derived.Test.YtjpfpojbalepeaaGreatZG4
import Derived.Test.YtjpfpojbalepeaaGreatZG8
import Derived.Test.YtjpfpojbalepeaaGreatZG9
import Derived.Test.YtjpfpojbalepeaaGreatZG12
set_option maxRecDepth 100000
set_option linter.unusedVariables false
namespace Go.Proofs.YtjpfpojbalepeaaGreat
open Go.RowKit
open Mem
open Go.Sort (grow)
def Pd.laid (r : Pd.T) (x : Sl) : Pd.T := ⟨r.ser,r.num,r.y,r.m,r.d,r.net,r.tax,r.gross,x,r.ofS,r.ofN,r.back⟩
theorem Pd.CopyE.own {w w' : World} {ao : Option Addr} {n cap : Nat} {rs : List Pd.T} {e : Ending} (h : Pd.CopyE w ao n rs e w') (hR : Pd.Ls w ao n cap rs) (hn : n ≤ 1000) : ∃ bo c,e = .returned (.slice bo n c) ∧ Pd.Own w' w.heap.size (.slice bo n c) rs ∧ (0 < n → bo = some ⟨w.heap.size,0,none⟩ ∧ w.heap.size < w'.heap.size) ∧ Below w.heap.size w w' := by
 rcases h with ⟨rfl,rfl,rfl⟩ | ⟨rfl,hb,hk⟩
 ·
  have hq := hR.nil rfl
  have hq2 := hR.fits
  obtain rfl : n = 0 := by omega
  have hz : rs = [] := List.eq_nil_of_length_eq_zero hR.len.symm
  subst hz
  exact ⟨none,0,rfl,Pd.own_nil _ _,fun h => absurd h (Nat.lt_irrefl _),Below.refl _ _⟩
 · exact ⟨_,n,rfl,Pd.own_of_block hb (Nat.le_refl _) hR.len (by omega),fun _ => ⟨rfl,hb.lt⟩,hk⟩
theorem setCell_size (u : World) (a : Addr) (x : Value) : (u.setCell a x).heap.size = u.heap.size := by simp
namespace Bl
def z0 : Sl := ⟨none,0,0⟩
theorem Lp.nils (P : Nat → Prop) (w : World) {x y : Int} (e : x = y) (hx : Fit y) : Lp P w ⟨z0,z0,z0,z0,z0,x⟩ ⟨[],[],[],[],[],y⟩ := by
 have h := lies_new w
 exact ⟨h.tab,h.ser,⟨[],Pd.ls_nil w,each_nil w,fun r hr => by cases hr⟩,h.book,h.sess,e,hx,inP_nil _ _,inP_nil _ _,inP_nil _ _,inP_nil _ _,inP_nil _ _⟩
theorem Each.put {w : World} {rs : List Pd.T} {ps : List Ps} (h : Each w rs ps) (k : Nat) (hk : k < rs.length) (r : Pd.T) (hr : IsP w r (ps[k]'(h.len ▸ hk))) : Each w (rs.set k r) ps := by
 have hl : (rs.set k r).length = ps.length := by rw [List.length_set]; exact h.len
 refine ⟨hl,fun i hi => ?_⟩
 have hi' : i < rs.length := by rw [List.length_set] at hi; exact hi
 have hx := h.each i hi'
 rw [List.getElem_set]
 by_cases q : k = i
 ·
  subst q
  rw [if_pos rfl]
  exact hr
 ·
  rw [if_neg q]
  exact hx
structure Cn (w u : World) (hc : Sv) : Prop where
 bel : Below w.heap.size w u
 var : At u w.heap.size hc
 zr : At u (w.heap.size + 1) zsv
section
variable {w u v : World} {hc : Sv}
theorem Cn.below (c : Cn w u hc) (k : Below u.heap.size u v) : Cn w v hc := ⟨bchain c.bel k,c.var.below k,c.zr.below k⟩
theorem Cn.far (c : Cn w u hc) {b : Nat} (hb : w.heap.size + 2 ≤ b) (o : Nat) (x : Value) : Cn w (u.setCell ⟨b,o,none⟩ x) hc := ⟨bset c.bel (by omega) _ _,c.var.away (by omega) _ _,c.zr.away (by omega) _ _⟩
theorem Cn.set0 (c : Cn w u hc) (x : Sl) : Cn w (u.setCell ⟨w.heap.size,0,none⟩ (.slice x.ao x.n x.cap)) ⟨x,hc.ser,hc.post,hc.book,hc.sess,hc.next⟩ := ⟨bset c.bel (Nat.le_refl _) _ _,(set_heap c.var 0 _).trans rfl,c.zr.away (by omega) _ _⟩
theorem Cn.set1 (c : Cn w u hc) (x : Sl) : Cn w (u.setCell ⟨w.heap.size,1,none⟩ (.slice x.ao x.n x.cap)) ⟨hc.tab,x,hc.post,hc.book,hc.sess,hc.next⟩ := ⟨bset c.bel (Nat.le_refl _) _ _,(set_heap c.var 1 _).trans rfl,c.zr.away (by omega) _ _⟩
theorem Cn.set2 (c : Cn w u hc) (x : Sl) : Cn w (u.setCell ⟨w.heap.size,2,none⟩ (.slice x.ao x.n x.cap)) ⟨hc.tab,hc.ser,x,hc.book,hc.sess,hc.next⟩ := ⟨bset c.bel (Nat.le_refl _) _ _,(set_heap c.var 2 _).trans rfl,c.zr.away (by omega) _ _⟩
theorem Cn.set3 (c : Cn w u hc) (x : Sl) : Cn w (u.setCell ⟨w.heap.size,3,none⟩ (.slice x.ao x.n x.cap)) ⟨hc.tab,hc.ser,hc.post,x,hc.sess,hc.next⟩ := ⟨bset c.bel (Nat.le_refl _) _ _,(set_heap c.var 3 _).trans rfl,c.zr.away (by omega) _ _⟩
theorem Cn.set4 (c : Cn w u hc) (x : Sl) : Cn w (u.setCell ⟨w.heap.size,4,none⟩ (.slice x.ao x.n x.cap)) ⟨hc.tab,hc.ser,hc.post,hc.book,x,hc.next⟩ := ⟨bset c.bel (Nat.le_refl _) _ _,(set_heap c.var 4 _).trans rfl,c.zr.away (by omega) _ _⟩
theorem Cn.kp (w u : World) (i : Nat) (x : Value) : KpP (fun b => w.heap.size + 2 ≤ b) u (u.setCell ⟨w.heap.size,i,none⟩ x) := KpP.set u (by omega) i x
end
structure Cr (w u : World) (hc : Sv) (s : St) (b1 k : Nat) (qs : List Pd.T) : Prop where
 cn : Cn w u hc
 two : Lp (fun b => w.heap.size + 2 ≤ b ∧ b < b1) u ⟨hc.tab,hc.ser,z0,z0,z0,hc.next⟩ ⟨s.tab,s.ser,[],[],[],s.next⟩
 own : Pd.Own u b1 (.slice hc.post.ao hc.post.n hc.post.cap) qs
 here : 0 < qs.length → hc.post.ao = some ⟨b1,0,none⟩ ∧ b1 < u.heap.size
 each : Each u qs s.post
 sh : ∀ r ∈ qs,Pd.Short r
 far : ∀ r ∈ qs,InP (fun b => b ≠ b1) r.parts.ao r.parts.n
 new : ∀ i (h : i < qs.length),i < k → InA (w.heap.size + 2) qs[i].parts.ao qs[i].parts.n
 lo : w.heap.size + 2 ≤ b1
section
variable {w u v : World} {hc : Sv} {s : St} {b1 k : Nat} {qs : List Pd.T}
theorem Cr.below (c : Cr w u hc s b1 k qs) (q : Below u.heap.size u v) : Cr w v hc s b1 k qs :=
 ⟨c.cn.below q,c.two.below q,Pd.own_below c.own q,fun h => ⟨(c.here h).1,Nat.lt_of_lt_of_le (c.here h).2 q.size⟩,c.each.below q,c.sh,c.far,c.new,c.lo⟩
theorem Cr.put (c : Cr w u hc s b1 k qs) (hk : k < qs.length) {x : Sl} (hp : Pt.Ls u x.ao x.n x.cap (s.post[k]'(c.each.len ▸ hk)).tot.parts) (hi : InA (b1 + 1) x.ao x.n) : Cr w (u.setCell ⟨b1,k * 12 + 8,none⟩ (.slice x.ao x.n x.cap)) hc s b1 (k + 1) (qs.set k (Pd.laid qs[k] x)) := by
 have hh := c.here (by omega)
 have hpos := c.own
 rw [hh.1] at hpos
 have hkp : KpP (fun b => b ≠ b1) u (u.setCell ⟨b1,k * 12 + 8,none⟩ (.slice x.ao x.n x.cap)) := KpP.set u (fun z => z rfl) _ _
 have hx : InP (fun b => b ≠ b1) x.ao x.n := fun hn b off e => by have := hi hn b off e; omega
 have hlo := c.lo
 refine ⟨c.cn.far hlo _ _,c.two.kp (KpP.set u (fun z => by omega) _ _),?_,?_,?_,?_,?_,?_,hlo⟩
 ·
  rw [hh.1]
  exact Pd.own_put hpos k 8 hk (by omega) _ (Pd.laid qs[k] x) rfl
 · exact fun _ => ⟨hh.1,by rw [setCell_size]; exact hh.2⟩
 ·
  have he : Each (u.setCell ⟨b1,k * 12 + 8,none⟩ (.slice x.ao x.n x.cap)) qs s.post := ⟨c.each.len,fun i hq => (c.each.each i hq).kpP (c.far _ (List.getElem_mem hq)) hkp⟩
  have h0 := c.each.each k hk
  exact he.put k hk _ ⟨h0.ser,h0.num,h0.y,h0.m,h0.d,h0.net,h0.tax,h0.gross,hp.kpP hx hkp,h0.ofS,h0.ofN,h0.back⟩
 ·
  intro r hr
  rcases List.mem_or_eq_of_mem_set hr with hr | rfl
  · exact c.sh r hr
  · exact (show Pd.Short qs[k] from c.sh _ (List.getElem_mem hk))
 ·
  intro r hr
  rcases List.mem_or_eq_of_mem_set hr with hr | rfl
  · exact c.far r hr
  · exact hx
 ·
  intro i hq hik
  rw [List.length_set] at hq
  rw [List.getElem_set]
  by_cases q : k = i
  ·
   subst q
   rw [if_pos rfl]
   exact hi.mono (by omega)
  ·
   rw [if_neg q]
   exact c.new i hq (by omega)
theorem Cr.done (c : Cr w u hc s b1 k qs) (hk : qs.length ≤ k) : Lp (fun b => w.heap.size + 2 ≤ b) u ⟨hc.tab,hc.ser,hc.post,z0,z0,hc.next⟩ ⟨s.tab,s.ser,s.post,[],[],s.next⟩ := by
 obtain ⟨ao,cap,e,hL,hg⟩ := Pd.own_ls c.own c.sh
 simp only [Value.slice.injEq] at e
 obtain ⟨e1,e2,e3⟩ := e
 rw [← e1,← e3,← e2] at hL
 have t := c.two.mono (Q := fun b => w.heap.size + 2 ≤ b) fun b z => z.1
 refine ⟨t.tab,t.ser,⟨qs,hL,c.each,fun r hr => ?_⟩,t.book,t.sess,t.next,t.fit,t.ptab,t.pser,?_,t.pbook,t.psess⟩
 ·
  obtain ⟨i,hi,rfl⟩ := List.getElem_of_mem hr
  exact c.new i hi (by omega)
 ·
  intro hn b off e
  have e' : hc.post.ao = some ⟨b,off,none⟩ := e
  obtain ⟨g,h1,h2⟩ := hg ⟨b,off,none⟩ (e1 ▸ e')
  cases h1
  exact Nat.le_trans c.lo h2
end
structure Fw (s : St) : Prop where
 tab : s.tab.length ≤ 1000
 ser : s.ser.length ≤ 1000
 post : s.post.length ≤ 1000
 book : s.book.length ≤ 1000
 sess : s.sess.length ≤ 1000
 parts : ∀ p ∈ s.post,p.tot.parts.length ≤ 1000
def CloneE (w : World) (s : St) (e : Ending) (w' : World) : Prop := ∃ h : Sv,e = .returned h.val ∧ LiesA (w.heap.size + 2) w' h s ∧ Below w.heap.size w w'
end Bl
set_option maxHeartbeats 8000000 in
theorem bil_clone (s : Bl.St) (h : Bl.Sv) (w : World) (hL : Bl.Lies w h s) (hF : Bl.Fw s) :
  Calls Tryz.prog 27 #[h.val] w (Bl.CloneE w s) := by
 have HL := Lib.hid hL
 have HF := Lib.hid hF
 have HX := Lib.hid hL.next
 obtain ⟨rs,hP,hE⟩ := hL.post
 have HP := Lib.hid hP
 have HE := Lib.hid hE
 have HFa : Hid (∀ r ∈ rs,InP (fun b => b < w.heap.size) r.parts.ao r.parts.n) := Lib.hid fun r hr => by
  obtain ⟨i,hi,rfl⟩ := List.getElem_of_mem hr
  exact (hE.each i hi).parts.inp
 have hn0 : h.tab.n ≤ 1000 := by have := hL.tab.len; have := hF.tab; omega
 have hn1 : h.ser.n ≤ 1000 := by have := hL.ser.len; have := hF.ser; omega
 have hn2 : h.post.n ≤ 1000 := by have := hP.len; have := hE.len; have := hF.post; omega
 have hn3 : h.book.n ≤ 1000 := by have := hL.book.len; have := hF.book; omega
 have hn4 : h.sess.n ≤ 1000 := by have := hL.sess.len; have := hF.sess; omega
 have HN := Lib.hid (And.intro hn0 (And.intro hn1 (And.intro hn2 (And.intro hn3 hn4))))
 clear hn0 hn1 hn3 hn4
 obtain ⟨U,hU,hB,k0,k1,hs⟩ := Bl.al2 w (.cells #[.slice h.tab.ao h.tab.n h.tab.cap,.slice h.ser.ao h.ser.n h.ser.cap,.slice h.post.ao h.post.n h.post.cap,.slice h.book.ao h.book.n h.book.cap,.slice h.sess.ao h.sess.n h.sess.cap,.int .i64 h.next] 42) (.cells #[.slice none 0 0,.slice none 0 0,.slice none 0 0,.slice none 0 0,.slice none 0 0,.int .i64 0] 42)
 have HC0 : Hid (Bl.Cn w U h) := Lib.hid ⟨hB,k0,k1⟩
 have HS : Hid (U.heap.size = w.heap.size + 2) := Lib.hid hs
 obtain ⟨x0,x1,x2,x3,x4,x5⟩ := HC0.out.var.cells
 clear k0 k1 hL hF hP hE hB hs
 unfold Bl.Sv.val Bl.sl
 go_enter Tryz.func27,Tryz.ntmps27
 go_wp2_with fail
 clear hU
 refine (bil_copiedRt s.tab h.tab.ao h.tab.n h.tab.cap U (HL.out.tab.below HC0.out.bel) HN.out.1).mono ?_
 intro e w1 q1
 obtain ⟨bo1,c1,rfl,l1,i1,b1⟩ := q1.ls (HL.out.tab.below HC0.out.bel)
 have HC1 := Lib.hid ((HC0.out.below b1).set0 ⟨bo1,h.tab.n,c1⟩)
 have HL1 : Hid (Bl.Lp (fun b => w.heap.size + 2 ≤ b) (w1.setCell ⟨w.heap.size,0,none⟩ (.slice bo1 h.tab.n c1)) ⟨⟨bo1,h.tab.n,c1⟩,Bl.z0,Bl.z0,Bl.z0,Bl.z0,h.next⟩ ⟨s.tab,[],[],[],[],s.next⟩) := Lib.hid (by
  have z := Bl.Lp.nils (fun b => w.heap.size + 2 ≤ b) w1 HX.out HL.out.fit
  refine Bl.Lp.kp ⟨l1,z.ser,z.post,z.book,z.sess,z.next,z.fit,?_,z.pser,z.ppost,z.pbook,z.psess⟩ (Bl.Cn.kp w w1 0 _)
  exact fun hn b off e => by have := i1 hn b off e; have := HS.out; show w.heap.size + 2 ≤ b; omega)
 have hfz := (HC0.out.below b1).var.frozen 0
 obtain ⟨v0,v1,v2,v3,v4,v5⟩ := (HC0.out.below b1).var.cells
 obtain ⟨u1,hu1⟩ : ∃ u1,w1.setCell ⟨w.heap.size,0,none⟩ (.slice bo1 h.tab.n c1) = u1 := ⟨_,rfl⟩
 rw [hu1] at HC1 HL1
 obtain ⟨y0,y1,y2,y3,y4,y5⟩ := HC1.out.var.cells
 clear l1 i1 b1 q1 x0 x1 x2 x3 x4 x5
 go_wp2_with fail
 clear hu1 hfz v0 v1 v2 v3 v4 v5
 refine (bil_copiedSr s.ser h.ser.ao h.ser.n h.ser.cap u1 (HL.out.ser.below HC1.out.bel) HN.out.2.1).mono ?_
 intro e w2 q2
 obtain ⟨bo2,c2,rfl,l2,i2,b2⟩ := q2.ls (HL.out.ser.below HC1.out.bel)
 have HC2 := Lib.hid ((HC1.out.below b2).set1 ⟨bo2,h.ser.n,c2⟩)
 have HL2 : Hid (Bl.Lp (fun b => w.heap.size + 2 ≤ b) (w2.setCell ⟨w.heap.size,1,none⟩ (.slice bo2 h.ser.n c2)) ⟨⟨bo1,h.tab.n,c1⟩,⟨bo2,h.ser.n,c2⟩,Bl.z0,Bl.z0,Bl.z0,h.next⟩ ⟨s.tab,s.ser,[],[],[],s.next⟩) := Lib.hid (by
  have z := HL1.out.below b2
  refine Bl.Lp.kp ⟨z.tab,l2,z.post,z.book,z.sess,z.next,z.fit,z.ptab,?_,z.ppost,z.pbook,z.psess⟩ (Bl.Cn.kp w w2 1 _)
  exact fun hn b off e => by have := i2 hn b off e; have := HC1.out.zr.lt; show w.heap.size + 2 ≤ b; omega)
 have hfz := (HC1.out.below b2).var.frozen 1
 obtain ⟨v0,v1,v2,v3,v4,v5⟩ := (HC1.out.below b2).var.cells
 obtain ⟨u2,hu2⟩ : ∃ u2,w2.setCell ⟨w.heap.size,1,none⟩ (.slice bo2 h.ser.n c2) = u2 := ⟨_,rfl⟩
 rw [hu2] at HC2 HL2
 obtain ⟨x0,x1,x2,x3,x4,x5⟩ := HC2.out.var.cells
 clear l2 i2 b2 q2 y0 y1 y2 y3 y4 y5
 go_wp2_with fail
 clear hu2 hfz v0 v1 v2 v3 v4 v5
 refine (bil_copiedPd rs h.post.ao h.post.n h.post.cap u2 (HP.out.below HC2.out.bel) HN.out.2.2.1).mono ?_
 intro e w3 q3
 obtain ⟨bo3,c3,rfl,o3,p3,b3⟩ := q3.own (HP.out.below HC2.out.bel) HN.out.2.2.1
 have HC3 := Lib.hid ((HC2.out.below b3).set2 ⟨bo3,h.post.n,c3⟩)
 have HLo : Hid (w.heap.size + 2 ≤ u2.heap.size) := Lib.hid (by have := HC2.out.zr.lt; omega)
 have HPl : Hid (h.post.n = rs.length) := Lib.hid HP.out.len
 have HR3 : Hid (Bl.Cr w (w3.setCell ⟨w.heap.size,2,none⟩ (.slice bo3 h.post.n c3)) ⟨⟨bo1,h.tab.n,c1⟩,⟨bo2,h.ser.n,c2⟩,⟨bo3,h.post.n,c3⟩,h.book,h.sess,h.next⟩ s u2.heap.size 0 rs) := Lib.hid (by
  have hlo := HLo.out
  refine ⟨HC3.out,(HL2.out.lt.below b3).kp (KpP.set _ (fun z => by have := z.1; omega) _ _),Pd.own_far o3 (by omega) _ _,fun hp => ?_,?_,HP.out.short,fun r hr => (HFa.out r hr).mono fun b hb => by omega,fun i _ hi => absurd hi (Nat.not_lt_zero _),hlo⟩
  ·
   have := p3 (by have := HPl.out; omega)
   exact ⟨this.1,by rw [setCell_size]; exact this.2⟩
  · exact HE.out.below (bset (bchain HC2.out.bel b3) (Nat.le_refl _) _ _))
 have hfz := (HC2.out.below b3).var.frozen 2
 obtain ⟨v0,v1,v2,v3,v4,v5⟩ := (HC2.out.below b3).var.cells
 obtain ⟨u3,hu3⟩ : ∃ u3,w3.setCell ⟨w.heap.size,2,none⟩ (.slice bo3 h.post.n c3) = u3 := ⟨_,rfl⟩
 rw [hu3] at HC3 HR3
 obtain ⟨y0,y1,y2,y3,y4,y5⟩ := HC3.out.var.cells
 clear o3 p3 b3 q3 x0 x1 x2 x3 x4 x5
 go_wp2_with fail
 clear hu3 hfz v0 v1 v2 v3 v4 v5 y0 y1 y2 y3 y4 y5 HC3
 obtain ⟨g1,hg1⟩ : ∃ g1,u2.heap.size = g1 := ⟨_,rfl⟩
 rw [hg1] at HR3 HLo
 clear hg1
 go_loopw [3,4,20] (fun _ _ j wr => ∃ (k : Nat) (qs : List Pd.T),k ≤ h.post.n ∧ j = .int .i64 k ∧ Hid (qs.length = h.post.n) ∧ Hid (Bl.Cr w wr ⟨⟨bo1,h.tab.n,c1⟩,⟨bo2,h.ser.n,c2⟩,⟨bo3,h.post.n,c3⟩,h.book,h.sess,h.next⟩ s g1 k qs)) (fun _ _ j _ => h.post.n - (intOf j).toNat)
 case atStart => exact ⟨0,rs,by omega,rfl,Lib.hid HPl.out.symm,HR3⟩
 case round =>
  clear HR3
  rename World => wz
  obtain ⟨k,qs,hk,rfl,HQ,HR⟩ := hrel
  obtain ⟨x0,x1,x2,x3,x4,x5⟩ := HR.out.cn.var.cells
  by_cases hlt : k < h.post.n
  ·
   have hkq : k < qs.length := HQ.out ▸ hlt
   obtain ⟨e3,hgl⟩ := HR.out.here (by omega)
   have e3' : bo3 = some ⟨g1,0,none⟩ := e3
   subst e3'
   clear e3
   obtain ⟨hat,hfr,_⟩ := Pd.own_at (show Pd.Own wz g1 (.slice (some ⟨g1,0,none⟩) h.post.n c3) qs from HR.out.own) k hkq
   have HKs : Hid (k < s.post.length) := Lib.hid (HR.out.each.len ▸ hkq)
   have HG := Lib.hid hgl
   have HK := Lib.hid hkq
   obtain ⟨pa,hpa⟩ : ∃ pa,(qs[k]'hkq).parts = pa := ⟨_,rfl⟩
   have c8 : wz.cell? ⟨g1,k * 12 + 8,none⟩ = some (.slice pa.ao pa.n pa.cap) := by rw [← hpa]; exact hat.c8
   have HPt : Hid (Pt.Ls wz pa.ao pa.n pa.cap (s.post[k]'HKs.out).tot.parts) := Lib.hid (by rw [← hpa]; exact (HR.out.each.each k hkq).parts)
   have HPn : Hid (pa.n ≤ 1000) := Lib.hid (by
    have h1 := HPt.out.len
    have h2 := HF.out.parts _ (List.getElem_mem HKs.out)
    omega)
   have HPa := Lib.hid hpa
   clear hat hgl hpa hfr
   go_wp2_with fail
   refine (bil_copiedPt _ pa.ao pa.n pa.cap wz HPt.out HPn.out).mono ?_
   intro e w4 q4
   obtain ⟨bo4,c4,rfl,l4,i4,b4⟩ := q4.ls HPt.out
   have hR4 := HR.out.below b4
   have HR4 := Lib.hid (hR4.put HK.out (x := ⟨bo4,pa.n,c4⟩) l4 (i4.mono (by have := HG.out; omega)))
   obtain ⟨hat,hfr,_⟩ := Pd.own_at (show Pd.Own w4 g1 (.slice (some ⟨g1,0,none⟩) h.post.n c3) qs from hR4.own) k HK.out
   have c8' : w4.cell? ⟨g1,k * 12 + 8,none⟩ = some (.slice pa.ao pa.n pa.cap) := by rw [← HPa.out]; exact hat.c8
   have z8 := hfr (k * 12 + 8)
   clear hat hfr hR4 l4 i4 b4 q4 c8 x0 x1 x2 x3 x4 x5
   go_wp2_with fail
   go_roundw
   case rel => exact ⟨k + 1,_,by omega,by go_num,Lib.hid (by rw [List.length_set]; exact HQ.out),HR4⟩
   case measure => simp [intOf]; omega
  ·
   obtain rfl : k = h.post.n := by omega
   have HD := Lib.hid (HR.out.done (by rw [HQ.out]; exact Nat.le_refl _))
   have HC := Lib.hid HR.out.cn
   go_wp2_with fail
   refine (bil_copiedBa s.book h.book.ao h.book.n h.book.cap wz (HL.out.book.below HC.out.bel) HN.out.2.2.2.1).mono ?_
   intro e w5 q5
   obtain ⟨bo5,c5,rfl,l5,i5,b5⟩ := q5.ls (HL.out.book.below HC.out.bel)
   have HC5 := Lib.hid ((HC.out.below b5).set3 ⟨bo5,h.book.n,c5⟩)
   have HL5 : Hid (Bl.Lp (fun b => w.heap.size + 2 ≤ b) (w5.setCell ⟨w.heap.size,3,none⟩ (.slice bo5 h.book.n c5)) ⟨⟨bo1,h.tab.n,c1⟩,⟨bo2,h.ser.n,c2⟩,⟨bo3,h.post.n,c3⟩,⟨bo5,h.book.n,c5⟩,Bl.z0,h.next⟩ ⟨s.tab,s.ser,s.post,s.book,[],s.next⟩) := Lib.hid (by
    have z := HD.out.below b5
    refine Bl.Lp.kp ⟨z.tab,z.ser,z.post,l5,z.sess,z.next,z.fit,z.ptab,z.pser,z.ppost,?_,z.psess⟩ (Bl.Cn.kp w w5 3 _)
    exact fun hn b off e => by have := i5 hn b off e; have := HC.out.zr.lt; show w.heap.size + 2 ≤ b; omega)
   have hfz := (HC.out.below b5).var.frozen 3
   obtain ⟨v0,v1,v2,v3,v4,v5⟩ := (HC.out.below b5).var.cells
   obtain ⟨u5,hu5⟩ : ∃ u5,w5.setCell ⟨w.heap.size,3,none⟩ (.slice bo5 h.book.n c5) = u5 := ⟨_,rfl⟩
   rw [hu5] at HC5 HL5
   obtain ⟨y0,y1,y2,y3,y4,y5⟩ := HC5.out.var.cells
   clear l5 i5 b5 q5 x0 x1 x2 x3 x4 x5
   go_wp2_with fail
   clear hu5 hfz v0 v1 v2 v3 v4 v5
   refine (bil_copiedSn s.sess h.sess.ao h.sess.n h.sess.cap u5 (HL.out.sess.below HC5.out.bel) HN.out.2.2.2.2).mono ?_
   intro e w6 q6
   obtain ⟨bo6,c6,rfl,l6,i6,b6⟩ := q6.ls (HL.out.sess.below HC5.out.bel)
   have HC6 := Lib.hid ((HC5.out.below b6).set4 ⟨bo6,h.sess.n,c6⟩)
   have HL6 : Hid (Bl.Lp (fun b => w.heap.size + 2 ≤ b) (w6.setCell ⟨w.heap.size,4,none⟩ (.slice bo6 h.sess.n c6)) ⟨⟨bo1,h.tab.n,c1⟩,⟨bo2,h.ser.n,c2⟩,⟨bo3,h.post.n,c3⟩,⟨bo5,h.book.n,c5⟩,⟨bo6,h.sess.n,c6⟩,h.next⟩ s) := Lib.hid (by
    have z := HL5.out.below b6
    refine Bl.Lp.kp ⟨z.tab,z.ser,z.post,z.book,l6,z.next,z.fit,z.ptab,z.pser,z.ppost,z.pbook,?_⟩ (Bl.Cn.kp w w6 4 _)
    exact fun hn b off e => by have := i6 hn b off e; have := HC5.out.zr.lt; show w.heap.size + 2 ≤ b; omega)
   have hfz := (HC5.out.below b6).var.frozen 4
   obtain ⟨v0,v1,v2,v3,v4,v5⟩ := (HC5.out.below b6).var.cells
   obtain ⟨u6,hu6⟩ : ∃ u6,w6.setCell ⟨w.heap.size,4,none⟩ (.slice bo6 h.sess.n c6) = u6 := ⟨_,rfl⟩
   rw [hu6] at HC6 HL6
   have hA6 : Bl.At u6 w.heap.size ⟨⟨bo1,h.tab.n,c1⟩,⟨bo2,h.ser.n,c2⟩,⟨bo3,h.post.n,c3⟩,⟨bo5,h.book.n,c5⟩,⟨bo6,h.sess.n,c6⟩,h.next⟩ := HC6.out.var
   have hZ6 : Bl.At u6 (w.heap.size + 1) Bl.zsv := HC6.out.zr
   clear l6 i6 b6 q6 y0 y1 y2 y3 y4 y5
   go_wp2_with (first | ((with_reducible apply Bl.wpl_load hA6); rfl; rfl; rfl) | ((with_reducible apply Bl.wpl_put (h := ⟨⟨bo1,h.tab.n,c1⟩,⟨bo2,h.ser.n,c2⟩,⟨bo3,h.post.n,c3⟩,⟨bo5,h.book.n,c5⟩,⟨bo6,h.sess.n,c6⟩,h.next⟩) hZ6); rfl; rfl; rfl; rfl))
   refine bodyPost_ret (Bl.results1 Tryz.results27 rfl (HC6.out.zr.lay _)) rfl ⟨_,rfl,?_,Bl.below_lay HC6.out.bel (by omega) _⟩
   exact (HL6.out.kp (KpP.row u6 (by omega) _)).liesA
end Go.Proofs.YtjpfpojbalepeaaGreat
namespace Go.Proofs.YtjpfpojbalepeaaGreat
open Go.RowKit
open Mem
open Go.Sort (grow)
def Bl.chk7 (ops : Array Oper) : Bool := Region.noSelect ops && Bl.tk ops [false,false,false,false,false,false,false] 0 && Bl.tk ops [true,false,false,false,false,false,false] 1 && Bl.tk ops [true,true,false,false,false,false,false] 2 && Bl.tk ops [true,true,true,false,false,false,false] 3 && (Region.ready .any ops #[true,true,true,true,false,false,false] == [4]) && (Region.ready .any ops #[true,true,true,true,true,false,false] == [5]) && (Region.ready .any ops #[true,true,true,true,true,true,false] == [6]) && (Region.ready .any ops #[true,true,true,true,true,true,true] == [])
theorem Bl.wp_call7 {id : Nat} {o0 o1 o2 o3 o4 o5 o6 : Oper} {a : Act} {w : World} {Q : Exit → Act → World → Prop} {S : World → Prop} (h : Bl.Sv) (v1 v2 v3 : Value) (gS gR : Nat) {h0 : Bl.Sv} {r0 : Rp.T} {x5 y5 x6 y6 : Tmp} {f : FuncId} {args : Array Value} (hSB : ∀ u,Below w.heap.size w u → S u) (hSx : ∀ u vs,S u → S (World.setRow u gS vs) ∧ S (World.setRow u gR vs)) (hA : Bl.At w gS h0) (hB : Rp.Bk w gR r0) (hn : gS ≠ gR) (hc : Bl.chk7 #[o0,o1,o2,o3,o4,o5,o6] = true)
  (y0 : YieldsIf Tryz.prog #[o0,o1,o2,o3,o4,o5,o6] S o0 h.val a) (y1 : YieldsIf Tryz.prog #[o0,o1,o2,o3,o4,o5,o6] S o1 v1 (a.put o0.dst h.val)) (y2 : YieldsIf Tryz.prog #[o0,o1,o2,o3,o4,o5,o6] S o2 v2 ((a.put o0.dst h.val).put o1.dst v1)) (y3 : YieldsIf Tryz.prog #[o0,o1,o2,o3,o4,o5,o6] S o3 v3 (((a.put o0.dst h.val).put o1.dst v1).put o2.dst v2))
  (q0 : ∀ c a w,Q (.panic c) (Act.put a o0.dst h.val) w → Q (.panic c) a w) (q1 : ∀ c a w,Q (.panic c) (Act.put a o1.dst v1) w → Q (.panic c) a w) (q2 : ∀ c a w,Q (.panic c) (Act.put a o2.dst v2) w → Q (.panic c) a w) (q3 : ∀ c a w,Q (.panic c) (Act.put a o3.dst v3) w → Q (.panic c) a w)
  (hg4 : o4.guard = none) (hrun : (execOp ((((a.put o0.dst h.val).put o1.dst v1).put o2.dst v2).put o3.dst v3).eval o4).run Tryz.prog w.drew = .ok (.enter f args) w.drew)
  (ho5 : o5.op = .store 42 (.tmp x5) (.tmp y5)) (hg5 : o5.guard = none) (hd5 : o5.dst = none) (ho6 : o6.op = .store 49 (.tmp x6) (.tmp y6)) (hg6 : o6.guard = none) (hd6 : o6.dst = none)
  (k : Calls Tryz.prog f args w.drew fun e u => ∃ q : Rp.T,e = .returned (Rp.val q) ∧ Below w.heap.size w u ∧ (((((a.put o0.dst h.val).put o1.dst v1).put o2.dst v2).put o3.dst v3).put o4.dst (Rp.val q)).tmps.toList[x5]? = some (.pointer (some ⟨gS,0,none⟩)) ∧ (((((a.put o0.dst h.val).put o1.dst v1).put o2.dst v2).put o3.dst v3).put o4.dst (Rp.val q)).tmps.toList[y5]? = some h.val ∧ (((((a.put o0.dst h.val).put o1.dst v1).put o2.dst v2).put o3.dst v3).put o4.dst (Rp.val q)).tmps.toList[x6]? = some (.pointer (some ⟨gR,0,none⟩)) ∧ (((((a.put o0.dst h.val).put o1.dst v1).put o2.dst v2).put o3.dst v3).put o4.dst (Rp.val q)).tmps.toList[y6]? = some (Rp.val q) ∧
   Q .normal (((((a.put o0.dst h.val).put o1.dst v1).put o2.dst v2).put o3.dst v3).put o4.dst (Rp.val q)) (Bl.out2 u gS gR h q)) :
  (Code.region id #[o0,o1,o2,o3,o4,o5,o6] true).wp Tryz.prog Q a w := by
 unfold Bl.chk7 at hc
 simp only [Bool.and_eq_true,beq_iff_eq] at hc
 obtain ⟨⟨⟨⟨⟨⟨⟨⟨c,c0⟩,c1⟩,c2⟩,c3⟩,c4⟩,c5⟩,c6⟩,c7⟩ := hc
 have hw0 : Below w.heap.size w w.drew := (Below.refl _ _).drew
 refine wp_region_held_drew (S := S) (by kernel_rfl) (hSB _ hw0) (fun hH => ?_)
 show wpAnyH Tryz.prog .any #[o0,o1,o2,o3,o4,o5,o6] Q _ 7 [false,false,false,false,false,false,false].toArray a w.drew
 refine Bl.take_if (i := 0) (oi := o0) rfl c c0 q0 y0 hH ?_
 refine Bl.take_if (i := 1) (oi := o1) rfl c c1 q1 y1 hH ?_
 refine Bl.take_if (i := 2) (oi := o2) rfl c c2 q2 y2 hH ?_
 refine Bl.take_if (i := 3) (oi := o3) rfl c c3 q3 y3 hH ?_
 refine Bl.one_if (i := 4) (oi := o4) rfl c4 (fun K hK => ?_)
 refine Bl.step_call hg4 hrun (k.mono ?_)
 rintro e u ⟨q,rfl,hb,e5,f5,e6,f6,hk⟩
 refine ⟨_,rfl,hK.out _ _ (hSB _ hb) fun hS => ?_⟩
 clear hK K
 refine Bl.one_if (i := 5) (oi := o5) rfl c5 (fun K hK => ?_)
 refine Bl.step_put hg5 ho5 hd5 e5 f5 (hA.below hb) (hK.out _ _ (hSx _ _ hS).1 fun hS2 => ?_)
 clear hK K
 refine Bl.one_if (i := 6) (oi := o6) rfl c6 (fun K hK => ?_)
 refine Rp.step_put hg6 ho6 hd6 e6 f6 ((hB.below hb).other (Ne.symm hn) _) (hK.out _ _ (hSx _ _ hS2).2 fun hS3 => ?_)
 clear hK K
 exact wpAnyH_done c7 hk _
section
variable {ops : Array Oper} {o : Oper} {a : Act} {S : World → Prop} {t : Tmp} {g : Nat}
theorem Bl.y_cser (hgd : o.guard = none) (ho : o.op = .fieldAddr 30 (.tmp t) 1) (hp : a.tmps.toList[t]? = some (.pointer (some ⟨g,0,none⟩))) : YieldsIf Tryz.prog ops S o (.pointer (some ⟨g,1,none⟩)) a := by
 refine .inl ⟨by simp [Region.wanted,hgd],fun u _ => ?_⟩
 simp only [execOp,ho,Ca.evT hp]
 simp [go_sem]
theorem Bl.y_str {k : Nat} {s : ByteArray} (hgd : o.guard = none) (ho : o.op = .load 9 (.tmp t)) (hp : a.tmps.toList[t]? = some (.pointer (some ⟨g,k,none⟩))) (hS : ∀ u,S u → u.cell? ⟨g,k,none⟩ = some (.string s)) : YieldsIf Tryz.prog ops S o (.string s) a := by
 refine .inl ⟨by simp [Region.wanted,hgd],fun u hu => ?_⟩
 have h := hS u hu
 simp only [execOp,ho,Ca.evT hp]
 simp [go_sem,h]
end
def Bl.openS (s : Bl.St) (c : Bl.Cm) : Bl.St := if Se.openE s.ser c.ser c.lim = 0 then ⟨s.tab,Se.openR s.ser c.ser c.lim,s.post,s.book,s.sess,s.next⟩ else s
def Bl.shutS (s : Bl.St) (c : Bl.Cm) : Bl.St := if Se.unE s.ser c.ser = 0 then ⟨s.tab,Se.shutR s.ser c.ser,s.post,s.book,s.sess,s.next⟩ else s
def Bl.dnS (s : Bl.St) (c : Bl.Cm) : Bl.St := if c.kind = 1 then Bl.openS s c else if c.kind = 2 then Bl.shutS s c else if c.kind = 3 then Bl.levyS s c.row else if c.kind = 4 then Bl.billS s c else if c.kind = 5 then Bl.credS s c else if c.kind = 7 then Bl.leaveS s c.sess else s
def Bl.dnR (s : Bl.St) (c : Bl.Cm) : Rp.T := if c.kind = 1 then ⟨Se.openE s.ser c.ser c.lim,0,0⟩ else if c.kind = 2 then ⟨Se.unE s.ser c.ser,0,0⟩ else if c.kind = 3 then ⟨Vt.putE s.tab c.row,0,0⟩ else if c.kind = 4 then Bl.billR s c else if c.kind = 5 then Bl.credR s c else if c.kind = 7 then ⟨Sp.leaveE s.sess c.sess,0,0⟩ else Bl.askR s c.ser
set_option maxHeartbeats 8000000 in
theorem bil_do3 (P0 : Nat → Prop) (s : Bl.St) (h : Bl.Sv) (r : Ca.T) (c : Bl.Cm) (w : World) (hL : Bl.Lp P0 w h s) (hI : Bl.IsM w r c) (hS : Ca.Short r) (hR : Bl.Right s) (hk : c.kind = 3) :
  Calls Tryz.prog 57 #[h.val,Ca.cmdV r] w (Bl.OutE P0 w (Bl.dnS s c) (Bl.dnR s c)) := by
 have HL := Lib.hid hL
 have HI := Lib.hid hI
 have HSh := Lib.hid hS
 have HR := Lib.hid hR
 have HDS : Hid (Bl.dnS s c = Bl.levyS s c.row) := Lib.hid (by unfold Bl.dnS; simp [hk])
 have HDR : Hid (Bl.dnR s c = ⟨Vt.putE s.tab c.row,0,0⟩) := Lib.hid (by unfold Bl.dnR; simp [hk])
 have hkr : r.kind = 3 := hI.kind.trans hk
 obtain ⟨U,hU,hA,hF,hBk⟩ := Bl.fr4 w h (Ca.cmdB r)
 have c0 : U.cell? ⟨w.heap.size + 1,0,none⟩ = some (.int .i64 3) := by rw [cell_of_row U _ 0 _ _ _ hBk,← hkr]; rfl
 have c3 : U.cell? ⟨w.heap.size + 1,3,none⟩ = some (.string r.cat) := by rw [cell_of_row U _ 3 _ _ _ hBk]; rfl
 have c4 : U.cell? ⟨w.heap.size + 1,4,none⟩ = some (.int .i64 r.ry) := by rw [cell_of_row U _ 4 _ _ _ hBk]; rfl
 have c5 : U.cell? ⟨w.heap.size + 1,5,none⟩ = some (.int .i64 r.rm) := by rw [cell_of_row U _ 5 _ _ _ hBk]; rfl
 have c6 : U.cell? ⟨w.heap.size + 1,6,none⟩ = some (.int .i64 r.rd) := by rw [cell_of_row U _ 6 _ _ _ hBk]; rfl
 have c7 : U.cell? ⟨w.heap.size + 1,7,none⟩ = some (.int .i64 r.bp) := by rw [cell_of_row U _ 7 _ _ _ hBk]; rfl
 have HA := Lib.hid hA
 have HF := Lib.hid hF
 have HBk := Lib.hid hBk
 have HUs : Hid (w.heap.size + 1 + 1 + 1 < U.heap.size) := Lib.hid hF.rp.lt
 obtain ⟨x0,x1,x2,x3,x4,x5⟩ := hA.cells
 clear hL hI hS hR hF hk hkr
 unfold Bl.Sv.val Bl.sl Ca.cmdV
 unfold Ca.cmdB at hU
 go_enter Tryz.func57,Tryz.ntmps57
 go_wp2_with (first | ((with_reducible apply Bl.wpl_load hA); rfl; rfl; rfl) | ((with_reducible apply Ca.wpl_cmd hBk); rfl; rfl; rfl))
 clear hU
 rw [← HI.out.row] at HDS HDR
 refine (bil_levy (fun b => P0 b ∧ b < w.heap.size) s h ⟨r.cat,r.ry,r.rm,r.rd,r.bp⟩ U (HL.out.lt.below HF.out.bel) ⟨HSh.out.2.2.2.2.2.1,HSh.out.2.2.2.2.2.2.1,HSh.out.2.2.2.2.2.2.2.1,HSh.out.2.2.2.2.2.2.2.2.1,HSh.out.2.2.2.2.2.2.2.2.2.1⟩).mono ?_
 clear c0 c3 c4 c5 c6 c7 x0 x1 x2 x3 x4 x5
 rintro e w3 ⟨h',rfl,hL3,b3⟩
 have HL3 := Lib.hid hL3
 have hF3 := HF.out.below b3
 have HF3 := Lib.hid hF3
 have hS3 := hF3.st
 have hR3 := hF3.rpS h'
 obtain ⟨q,hq⟩ : ∃ q,(⟨Vt.putE s.tab ⟨r.cat,r.ry,r.rm,r.rd,r.bp⟩,0,0⟩ : Rp.T) = q := ⟨_,rfl⟩
 rw [hq] at HDR ⊢
 clear hq hL3 b3 hF3 hA hBk
 go_wp2_with (first | ((with_reducible apply Bl.wpl_put (h := h') hS3); rfl; rfl; rfl; rfl) | ((with_reducible apply Rp.wpl_put (r := q) hR3); rfl; rfl; rfl; rfl))
 refine HF3.out.ret Tryz.results57 h' q rfl rfl rfl fun b => ?_
 rw [HDS.out,HDR.out]
 exact ⟨_,rfl,(HL3.out.out2 (w := w) (fun b z => z.2) (by omega) (by have := HUs.out; omega) (by omega) (by have := HUs.out; omega)).mono (fun b z => z.elim (fun y => .inl y.1) .inr),b⟩
set_option maxHeartbeats 8000000 in
theorem bil_do4 (P0 : Nat → Prop) (s : Bl.St) (h : Bl.Sv) (r : Ca.T) (c : Bl.Cm) (w : World) (hL : Bl.Lp P0 w h s) (hI : Bl.IsM w r c) (hS : Ca.Short r) (hR : Bl.Right s) (hk : c.kind = 4) :
  Calls Tryz.prog 57 #[h.val,Ca.cmdV r] w (Bl.OutE P0 w (Bl.dnS s c) (Bl.dnR s c)) := by
 have HL := Lib.hid hL
 have HI := Lib.hid hI
 have HSh := Lib.hid hS
 have HR := Lib.hid hR
 have HDS : Hid (Bl.dnS s c = Bl.billS s c) := Lib.hid (by unfold Bl.dnS; simp [hk])
 have HDR : Hid (Bl.dnR s c = Bl.billR s c) := Lib.hid (by unfold Bl.dnR; simp [hk])
 have hkr : r.kind = 4 := hI.kind.trans hk
 obtain ⟨U,hU,hA,hF,hBk⟩ := Bl.fr4 w h (Ca.cmdB r)
 have c0 : U.cell? ⟨w.heap.size + 1,0,none⟩ = some (.int .i64 4) := by rw [cell_of_row U _ 0 _ _ _ hBk,← hkr]; rfl
 have HA := Lib.hid hA
 have HF := Lib.hid hF
 have HBk := Lib.hid hBk
 have HUs : Hid (w.heap.size + 1 + 1 + 1 < U.heap.size) := Lib.hid hF.rp.lt
 obtain ⟨x0,x1,x2,x3,x4,x5⟩ := hA.cells
 clear hL hI hS hR hF hk hkr
 unfold Bl.Sv.val Bl.sl Ca.cmdV
 unfold Ca.cmdB at hU
 go_enter Tryz.func57,Tryz.ntmps57
 go_wp2_with (first | ((with_reducible apply Bl.wpl_load hA); rfl; rfl; rfl) | ((with_reducible apply Ca.wpl_cmd hBk); rfl; rfl; rfl))
 clear hU
 refine (bil_bill (fun b => P0 b ∧ b < w.heap.size) s h r c U (HL.out.lt.below HF.out.bel) (HI.out.below HF.out.bel) HSh.out HR.out).mono ?_
 clear c0 x0 x1 x2 x3 x4 x5
 rintro e w3 ⟨h',rfl,hL3,b3⟩
 have HL3 := Lib.hid hL3
 have hF3 := HF.out.below b3
 have HF3 := Lib.hid hF3
 have hS3 := hF3.st
 have hR3 := hF3.rpS h'
 obtain ⟨q,hq⟩ : ∃ q,Bl.billR s c = q := ⟨_,rfl⟩
 rw [hq] at HDR ⊢
 clear hq hL3 b3 hF3 hA hBk
 go_wp2_with (first | ((with_reducible apply Bl.wpl_put (h := h') hS3); rfl; rfl; rfl; rfl) | ((with_reducible apply Rp.wpl_put (r := q) hR3); rfl; rfl; rfl; rfl))
 refine HF3.out.ret Tryz.results57 h' q rfl rfl rfl fun b => ?_
 rw [HDS.out,HDR.out]
 exact ⟨_,rfl,(HL3.out.out2 (w := w) (fun b z => z.2) (by omega) (by have := HUs.out; omega) (by omega) (by have := HUs.out; omega)).mono (fun b z => z.elim (fun y => .inl y.1) .inr),b⟩
set_option maxHeartbeats 8000000 in
theorem bil_do5 (P0 : Nat → Prop) (s : Bl.St) (h : Bl.Sv) (r : Ca.T) (c : Bl.Cm) (w : World) (hL : Bl.Lp P0 w h s) (hI : Bl.IsM w r c) (hS : Ca.Short r) (hR : Bl.Right s) (hk : c.kind = 5) :
  Calls Tryz.prog 57 #[h.val,Ca.cmdV r] w (Bl.OutE P0 w (Bl.dnS s c) (Bl.dnR s c)) := by
 have HL := Lib.hid hL
 have HI := Lib.hid hI
 have HSh := Lib.hid hS
 have HR := Lib.hid hR
 have HDS : Hid (Bl.dnS s c = Bl.credS s c) := Lib.hid (by unfold Bl.dnS; simp [hk])
 have HDR : Hid (Bl.dnR s c = Bl.credR s c) := Lib.hid (by unfold Bl.dnR; simp [hk])
 have hkr : r.kind = 5 := hI.kind.trans hk
 obtain ⟨U,hU,hA,hF,hBk⟩ := Bl.fr4 w h (Ca.cmdB r)
 have c0 : U.cell? ⟨w.heap.size + 1,0,none⟩ = some (.int .i64 5) := by rw [cell_of_row U _ 0 _ _ _ hBk,← hkr]; rfl
 have HA := Lib.hid hA
 have HF := Lib.hid hF
 have HBk := Lib.hid hBk
 have HUs : Hid (w.heap.size + 1 + 1 + 1 < U.heap.size) := Lib.hid hF.rp.lt
 obtain ⟨x0,x1,x2,x3,x4,x5⟩ := hA.cells
 clear hL hI hS hR hF hk hkr
 unfold Bl.Sv.val Bl.sl Ca.cmdV
 unfold Ca.cmdB at hU
 go_enter Tryz.func57,Tryz.ntmps57
 go_wp2_with (first | ((with_reducible apply Bl.wpl_load hA); rfl; rfl; rfl) | ((with_reducible apply Ca.wpl_cmd hBk); rfl; rfl; rfl))
 clear hU
 refine (bil_credit (fun b => P0 b ∧ b < w.heap.size) s h r c U (HL.out.lt.below HF.out.bel) (HI.out.below HF.out.bel) HSh.out HR.out).mono ?_
 clear c0 x0 x1 x2 x3 x4 x5
 rintro e w3 ⟨h',rfl,hL3,b3⟩
 have HL3 := Lib.hid hL3
 have hF3 := HF.out.below b3
 have HF3 := Lib.hid hF3
 have hS3 := hF3.st
 have hR3 := hF3.rpS h'
 obtain ⟨q,hq⟩ : ∃ q,Bl.credR s c = q := ⟨_,rfl⟩
 rw [hq] at HDR ⊢
 clear hq hL3 b3 hF3 hA hBk
 go_wp2_with (first | ((with_reducible apply Bl.wpl_put (h := h') hS3); rfl; rfl; rfl; rfl) | ((with_reducible apply Rp.wpl_put (r := q) hR3); rfl; rfl; rfl; rfl))
 refine HF3.out.ret Tryz.results57 h' q rfl rfl rfl fun b => ?_
 rw [HDS.out,HDR.out]
 exact ⟨_,rfl,(HL3.out.out2 (w := w) (fun b z => z.2) (by omega) (by have := HUs.out; omega) (by omega) (by have := HUs.out; omega)).mono (fun b z => z.elim (fun y => .inl y.1) .inr),b⟩
set_option maxHeartbeats 8000000 in
theorem bil_do7 (P0 : Nat → Prop) (s : Bl.St) (h : Bl.Sv) (r : Ca.T) (c : Bl.Cm) (w : World) (hL : Bl.Lp P0 w h s) (hI : Bl.IsM w r c) (hS : Ca.Short r) (hR : Bl.Right s) (hk : c.kind = 7) :
  Calls Tryz.prog 57 #[h.val,Ca.cmdV r] w (Bl.OutE P0 w (Bl.dnS s c) (Bl.dnR s c)) := by
 have HL := Lib.hid hL
 have HI := Lib.hid hI
 have HSh := Lib.hid hS
 have HR := Lib.hid hR
 have HDS : Hid (Bl.dnS s c = Bl.leaveS s c.sess) := Lib.hid (by unfold Bl.dnS; simp [hk])
 have HDR : Hid (Bl.dnR s c = ⟨Sp.leaveE s.sess c.sess,0,0⟩) := Lib.hid (by unfold Bl.dnR; simp [hk])
 have hkr : r.kind = 7 := hI.kind.trans hk
 obtain ⟨U,hU,hA,hF,hBk⟩ := Bl.fr4 w h (Ca.cmdB r)
 have c0 : U.cell? ⟨w.heap.size + 1,0,none⟩ = some (.int .i64 7) := by rw [cell_of_row U _ 0 _ _ _ hBk,← hkr]; rfl
 have c14 : U.cell? ⟨w.heap.size + 1,14,none⟩ = some (.int .i64 r.csess) := by rw [cell_of_row U _ 14 _ _ _ hBk]; rfl
 have HA := Lib.hid hA
 have HF := Lib.hid hF
 have HBk := Lib.hid hBk
 have HUs : Hid (w.heap.size + 1 + 1 + 1 < U.heap.size) := Lib.hid hF.rp.lt
 obtain ⟨x0,x1,x2,x3,x4,x5⟩ := hA.cells
 clear hL hI hS hR hF hk hkr
 unfold Bl.Sv.val Bl.sl Ca.cmdV
 unfold Ca.cmdB at hU
 go_enter Tryz.func57,Tryz.ntmps57
 go_wp2_with (first | ((with_reducible apply Bl.wpl_load hA); rfl; rfl; rfl) | ((with_reducible apply Ca.wpl_cmd hBk); rfl; rfl; rfl))
 clear hU
 rw [← HI.out.csess] at HDS HDR
 refine (bil_leave (fun b => P0 b ∧ b < w.heap.size) s h r.csess U (HL.out.lt.below HF.out.bel) HSh.out.2.2.2.2.2.2.2.2.2.2.2.2.2.2.2).mono ?_
 clear c0 c14 x0 x1 x2 x3 x4 x5
 rintro e w3 ⟨h',rfl,hL3,b3⟩
 have HL3 := Lib.hid hL3
 have hF3 := HF.out.below b3
 have HF3 := Lib.hid hF3
 have hS3 := hF3.st
 have hR3 := hF3.rpS h'
 obtain ⟨q,hq⟩ : ∃ q,(⟨Sp.leaveE s.sess r.csess,0,0⟩ : Rp.T) = q := ⟨_,rfl⟩
 rw [hq] at HDR ⊢
 clear hq hL3 b3 hF3 hA hBk
 go_wp2_with (first | ((with_reducible apply Bl.wpl_put (h := h') hS3); rfl; rfl; rfl; rfl) | ((with_reducible apply Rp.wpl_put (r := q) hR3); rfl; rfl; rfl; rfl))
 refine HF3.out.ret Tryz.results57 h' q rfl rfl rfl fun b => ?_
 rw [HDS.out,HDR.out]
 exact ⟨_,rfl,(HL3.out.out2 (w := w) (fun b z => z.2) (by omega) (by have := HUs.out; omega) (by omega) (by have := HUs.out; omega)).mono (fun b z => z.elim (fun y => .inl y.1) .inr),b⟩
set_option maxHeartbeats 8000000 in
theorem bil_do1 (P0 : Nat → Prop) (s : Bl.St) (h : Bl.Sv) (r : Ca.T) (c : Bl.Cm) (w : World) (hL : Bl.Lp P0 w h s) (hI : Bl.IsM w r c) (hS : Ca.Short r) (hR : Bl.Right s) (hk : c.kind = 1) :
  Calls Tryz.prog 57 #[h.val,Ca.cmdV r] w (Bl.OutE P0 w (Bl.dnS s c) (Bl.dnR s c)) := by
 have HL := Lib.hid hL
 have HI := Lib.hid hI
 have HSh := Lib.hid hS
 have HR := Lib.hid hR
 have HDS : Hid (Bl.dnS s c = Bl.openS s c) := Lib.hid (by unfold Bl.dnS; simp [hk])
 have HDR : Hid (Bl.dnR s c = ⟨Se.openE s.ser c.ser c.lim,0,0⟩) := Lib.hid (by unfold Bl.dnR; simp [hk])
 have hkr : r.kind = 1 := hI.kind.trans hk
 obtain ⟨U,hU,hA,hF,hBk⟩ := Bl.fr4 w h (Ca.cmdB r)
 have c0 : U.cell? ⟨w.heap.size + 1,0,none⟩ = some (.int .i64 1) := by rw [cell_of_row U _ 0 _ _ _ hBk,← hkr]; rfl
 have c1 : U.cell? ⟨w.heap.size + 1,1,none⟩ = some (.string r.ser) := by rw [cell_of_row U _ 1 _ _ _ hBk]; rfl
 have c2 : U.cell? ⟨w.heap.size + 1,2,none⟩ = some (.int .i64 r.lim) := by rw [cell_of_row U _ 2 _ _ _ hBk]; rfl
 have HA := Lib.hid hA
 have HF := Lib.hid hF
 have HBk := Lib.hid hBk
 have HUs : Hid (w.heap.size + 1 + 1 + 1 < U.heap.size) := Lib.hid hF.rp.lt
 obtain ⟨x0,x1,x2,x3,x4,x5⟩ := hA.cells
 clear hL hI hS hR hF hk hkr
 unfold Bl.Sv.val Bl.sl Ca.cmdV
 unfold Ca.cmdB at hU
 go_enter Tryz.func57,Tryz.ntmps57
 go_wp2_with fail
 clear hU
 refine Calls.mono (R := OpenE U s.ser c.ser c.lim) ?_ ?_
 ·
  rw [HI.out.ser,HI.out.lim]
  exact ser_open s.ser c.ser c.lim h.ser.ao h.ser.n h.ser.cap U (HL.out.ser.below HF.out.bel) (HI.out.ser ▸ HSh.out.2.2.2.1)
 rintro e w1 ⟨v,rfl,o1,b1⟩
 have HSn := Lib.hid (Bl.open_short (s := c.ser) (m := c.lim) HL.out.ser.short (HI.out.ser ▸ HSh.out.2.2.2.1) (HI.out.lim ▸ HSh.out.2.2.2.2.1))
 obtain ⟨L1,hL1⟩ : ∃ L1,Se.openR s.ser c.ser c.lim = L1 := ⟨_,rfl⟩
 obtain ⟨E,hE⟩ : ∃ E,Se.openE s.ser c.ser c.lim = E := ⟨_,rfl⟩
 have HOp : Hid (Bl.openS s c = if E = 0 then ⟨s.tab,L1,s.post,s.book,s.sess,s.next⟩ else s) := Lib.hid (by rw [← hE,← hL1]; rfl)
 rw [hL1] at o1 HSn
 rw [hE] at HDR ⊢
 clear hL1 hE
 obtain ⟨so,sc,rfl,l1,i1⟩ := Sr.own_ls o1 HSn.out
 obtain ⟨sn,hsn⟩ : ∃ sn,L1.length = sn := ⟨_,rfl⟩
 rw [hsn] at l1 ⊢
 clear hsn
 have HS1 := Lib.hid l1
 have HI1 := Lib.hid (inA_own (n := sn) i1)
 have hA1 := HA.out.below b1
 have HF1 := Lib.hid (HF.out.below b1)
 have HB1 := Lib.hid (bchain HF.out.bel b1)
 have HU1 := Lib.hid b1.size
 clear o1 l1 i1 b1 x0 x1 x2 x3 x4 x5 c0 c1 c2 hA hBk
 go_wp2_with (first | ((with_reducible apply Bl.wpl_load hA1); rfl; rfl; rfl))
 refine (bil_list h ⟨so,sn,sc⟩ E w1).mono ?_
 rintro e w3 ⟨hcase,b3⟩
 have hF3 := HF1.out.below b3
 have HF3 := Lib.hid hF3
 have HB3 := Lib.hid (bchain HB1.out b3)
 have HS3 := Lib.hid (HS1.out.below b3)
 have hS3 := hF3.st
 rcases hcase with ⟨hE0,rfl⟩ | ⟨hE0,rfl⟩
 ·
  subst hE0
  have hR3 := hF3.rpS ⟨h.tab,⟨so,sn,sc⟩,h.post,h.book,h.sess,h.next⟩
  clear b3 hF3 hA1
  go_wp2_with (first | ((with_reducible apply Bl.wpl_put (h := ⟨h.tab,⟨so,sn,sc⟩,h.post,h.book,h.sess,h.next⟩) hS3); rfl; rfl; rfl; rfl) | ((with_reducible apply Rp.wpl_put (r := ⟨0,0,0⟩) hR3); rfl; rfl; rfl; rfl))
  refine HF3.out.ret Tryz.results57 ⟨h.tab,⟨so,sn,sc⟩,h.post,h.book,h.sess,h.next⟩ ⟨0,0,0⟩ rfl rfl rfl fun b => ?_
  have hop : Bl.openS s c = ⟨s.tab,L1,s.post,s.book,s.sess,s.next⟩ := by have := HOp.out; simpa using this
  rw [HDS.out,HDR.out,hop]
  have hl := ((HL.out.lt.below HB3.out).wide U)
  have hL3 : Bl.Lp (nw (fun b => P0 b ∧ b < w.heap.size) U) w3 ⟨h.tab,⟨so,sn,sc⟩,h.post,h.book,h.sess,h.next⟩ ⟨s.tab,L1,s.post,s.book,s.sess,s.next⟩ := ⟨hl.tab,HS3.out,hl.post,hl.book,hl.sess,hl.next,hl.fit,hl.ptab,HI1.out.nw _ (Nat.le_refl _),hl.ppost,hl.pbook,hl.psess⟩
  exact ⟨_,rfl,(hL3.out2 (w := w) (fun b z => z.2) (by omega) (by have := HUs.out; omega) (by omega) (by have := HUs.out; omega)).mono (fun b z => z.elim (fun y => .inl y.1) .inr),b⟩
 ·
  have hR3 := hF3.rpS h
  clear b3 hF3 hA1
  go_wp2_with (first | ((with_reducible apply Bl.wpl_put (h := h) hS3); rfl; rfl; rfl; rfl) | ((with_reducible apply Rp.wpl_put (r := ⟨E,0,0⟩) hR3); rfl; rfl; rfl; rfl))
  refine HF3.out.ret Tryz.results57 h ⟨E,0,0⟩ rfl rfl rfl fun b => ?_
  rw [HDS.out,HDR.out,HOp.out,if_neg hE0]
  exact ⟨_,rfl,(HL.out.below b).wide w,b⟩
set_option maxHeartbeats 8000000 in
theorem bil_do2 (P0 : Nat → Prop) (s : Bl.St) (h : Bl.Sv) (r : Ca.T) (c : Bl.Cm) (w : World) (hL : Bl.Lp P0 w h s) (hI : Bl.IsM w r c) (hS : Ca.Short r) (hR : Bl.Right s) (hk : c.kind = 2) :
  Calls Tryz.prog 57 #[h.val,Ca.cmdV r] w (Bl.OutE P0 w (Bl.dnS s c) (Bl.dnR s c)) := by
 have HL := Lib.hid hL
 have HI := Lib.hid hI
 have HSh := Lib.hid hS
 have HR := Lib.hid hR
 have HDS : Hid (Bl.dnS s c = Bl.shutS s c) := Lib.hid (by unfold Bl.dnS; simp [hk])
 have HDR : Hid (Bl.dnR s c = ⟨Se.unE s.ser c.ser,0,0⟩) := Lib.hid (by unfold Bl.dnR; simp [hk])
 have hkr : r.kind = 2 := hI.kind.trans hk
 obtain ⟨U,hU,hA,hF,hBk⟩ := Bl.fr4 w h (Ca.cmdB r)
 have c0 : U.cell? ⟨w.heap.size + 1,0,none⟩ = some (.int .i64 2) := by rw [cell_of_row U _ 0 _ _ _ hBk,← hkr]; rfl
 have c1 : U.cell? ⟨w.heap.size + 1,1,none⟩ = some (.string r.ser) := by rw [cell_of_row U _ 1 _ _ _ hBk]; rfl
 have HA := Lib.hid hA
 have HF := Lib.hid hF
 have HBk := Lib.hid hBk
 have HUs : Hid (w.heap.size + 1 + 1 + 1 < U.heap.size) := Lib.hid hF.rp.lt
 obtain ⟨x0,x1,x2,x3,x4,x5⟩ := hA.cells
 clear hL hI hS hR hF hk hkr
 unfold Bl.Sv.val Bl.sl Ca.cmdV
 unfold Ca.cmdB at hU
 go_enter Tryz.func57,Tryz.ntmps57
 go_wp2_with fail
 clear hU
 refine Calls.mono (R := ShutE U s.ser c.ser) ?_ ?_
 ·
  rw [HI.out.ser]
  exact ser_shut s.ser c.ser h.ser.ao h.ser.n h.ser.cap U (HL.out.ser.below HF.out.bel)
 rintro e w1 ⟨v,rfl,o1,b1⟩
 have HSn := Lib.hid (Bl.shut_short (s := c.ser) HL.out.ser.short)
 obtain ⟨L1,hL1⟩ : ∃ L1,Se.shutR s.ser c.ser = L1 := ⟨_,rfl⟩
 obtain ⟨E,hE⟩ : ∃ E,Se.unE s.ser c.ser = E := ⟨_,rfl⟩
 have HOp : Hid (Bl.shutS s c = if E = 0 then ⟨s.tab,L1,s.post,s.book,s.sess,s.next⟩ else s) := Lib.hid (by rw [← hE,← hL1]; rfl)
 rw [hL1] at o1 HSn
 rw [hE] at HDR ⊢
 clear hL1 hE
 obtain ⟨so,sc,rfl,l1,i1⟩ := Sr.own_ls o1 HSn.out
 obtain ⟨sn,hsn⟩ : ∃ sn,L1.length = sn := ⟨_,rfl⟩
 rw [hsn] at l1 ⊢
 clear hsn
 have HS1 := Lib.hid l1
 have HI1 := Lib.hid (inA_own (n := sn) i1)
 have hA1 := HA.out.below b1
 have HF1 := Lib.hid (HF.out.below b1)
 have HB1 := Lib.hid (bchain HF.out.bel b1)
 have HU1 := Lib.hid b1.size
 clear o1 l1 i1 b1 x0 x1 x2 x3 x4 x5 c0 c1 hA hBk
 go_wp2_with (first | ((with_reducible apply Bl.wpl_load hA1); rfl; rfl; rfl))
 refine (bil_list h ⟨so,sn,sc⟩ E w1).mono ?_
 rintro e w3 ⟨hcase,b3⟩
 have hF3 := HF1.out.below b3
 have HF3 := Lib.hid hF3
 have HB3 := Lib.hid (bchain HB1.out b3)
 have HS3 := Lib.hid (HS1.out.below b3)
 have hS3 := hF3.st
 rcases hcase with ⟨hE0,rfl⟩ | ⟨hE0,rfl⟩
 ·
  subst hE0
  have hR3 := hF3.rpS ⟨h.tab,⟨so,sn,sc⟩,h.post,h.book,h.sess,h.next⟩
  clear b3 hF3 hA1
  go_wp2_with (first | ((with_reducible apply Bl.wpl_put (h := ⟨h.tab,⟨so,sn,sc⟩,h.post,h.book,h.sess,h.next⟩) hS3); rfl; rfl; rfl; rfl) | ((with_reducible apply Rp.wpl_put (r := ⟨0,0,0⟩) hR3); rfl; rfl; rfl; rfl))
  refine HF3.out.ret Tryz.results57 ⟨h.tab,⟨so,sn,sc⟩,h.post,h.book,h.sess,h.next⟩ ⟨0,0,0⟩ rfl rfl rfl fun b => ?_
  have hop : Bl.shutS s c = ⟨s.tab,L1,s.post,s.book,s.sess,s.next⟩ := by have := HOp.out; simpa using this
  rw [HDS.out,HDR.out,hop]
  have hl := ((HL.out.lt.below HB3.out).wide U)
  have hL3 : Bl.Lp (nw (fun b => P0 b ∧ b < w.heap.size) U) w3 ⟨h.tab,⟨so,sn,sc⟩,h.post,h.book,h.sess,h.next⟩ ⟨s.tab,L1,s.post,s.book,s.sess,s.next⟩ := ⟨hl.tab,HS3.out,hl.post,hl.book,hl.sess,hl.next,hl.fit,hl.ptab,HI1.out.nw _ (Nat.le_refl _),hl.ppost,hl.pbook,hl.psess⟩
  exact ⟨_,rfl,(hL3.out2 (w := w) (fun b z => z.2) (by omega) (by have := HUs.out; omega) (by omega) (by have := HUs.out; omega)).mono (fun b z => z.elim (fun y => .inl y.1) .inr),b⟩
 ·
  have hR3 := hF3.rpS h
  clear b3 hF3 hA1
  go_wp2_with (first | ((with_reducible apply Bl.wpl_put (h := h) hS3); rfl; rfl; rfl; rfl) | ((with_reducible apply Rp.wpl_put (r := ⟨E,0,0⟩) hR3); rfl; rfl; rfl; rfl))
  refine HF3.out.ret Tryz.results57 h ⟨E,0,0⟩ rfl rfl rfl fun b => ?_
  rw [HDS.out,HDR.out,HOp.out,if_neg hE0]
  exact ⟨_,rfl,(HL.out.below b).wide w,b⟩
set_option maxHeartbeats 8000000 in
theorem bil_do8 (P0 : Nat → Prop) (s : Bl.St) (h : Bl.Sv) (r : Ca.T) (c : Bl.Cm) (w : World) (hL : Bl.Lp P0 w h s) (hI : Bl.IsM w r c) (hS : Ca.Short r) (hR : Bl.Right s) (hk : c.kind = 8) :
  Calls Tryz.prog 57 #[h.val,Ca.cmdV r] w (Bl.OutE P0 w (Bl.dnS s c) (Bl.dnR s c)) := by
 have HL := Lib.hid hL
 have HI := Lib.hid hI
 have HSh := Lib.hid hS
 have HR := Lib.hid hR
 have HDS : Hid (Bl.dnS s c = s) := Lib.hid (by unfold Bl.dnS; simp [hk])
 have HDR : Hid (Bl.dnR s c = Bl.askR s c.ser) := Lib.hid (by unfold Bl.dnR; simp [hk])
 have hkr : r.kind = 8 := hI.kind.trans hk
 obtain ⟨U,hU,hA,hF,hBk⟩ := Bl.fr4 w h (Ca.cmdB r)
 have c0 : U.cell? ⟨w.heap.size + 1,0,none⟩ = some (.int .i64 8) := by rw [cell_of_row U _ 0 _ _ _ hBk,← hkr]; rfl
 have HA := Lib.hid hA
 have HF := Lib.hid hF
 have HBk := Lib.hid hBk
 have HUs : Hid (w.heap.size + 1 + 1 + 1 < U.heap.size) := Lib.hid hF.rp.lt
 obtain ⟨x0,x1,x2,x3,x4,x5⟩ := hA.cells
 clear hL hI hS hR hF hk hkr
 unfold Bl.Sv.val Bl.sl Ca.cmdV
 unfold Ca.cmdB at hU
 go_enter Tryz.func57,Tryz.ntmps57
 go_wp2_with fail
 clear hU
 refine Bl.wp_call7 (S := fun u => Bl.At u w.heap.size h ∧ u.cell? ⟨w.heap.size + 1,1,none⟩ = some (.string r.ser)) (f := 108) (args := #[h.val,.string r.ser]) h h.val (.pointer (some ⟨w.heap.size + 1,1,none⟩)) (.string r.ser) (w.heap.size + 1 + 1) (w.heap.size + 1 + 1 + 1) ?_ ?_ HF.out.st HF.out.rp (by omega) ?_ ?_ ?_ ?_ ?_ ?_ ?_ ?_ ?_ rfl ?_ rfl rfl rfl rfl rfl rfl ?_
 ·
  intro u hb
  exact ⟨HA.out.below hb,by rw [cell_of_row u _ 1 _ _ _ ((hb.block _ (by have := HUs.out; omega)).trans HBk.out)]; rfl⟩
 ·
  intro u vs hu
  exact ⟨⟨hu.1.other (by omega) _,(World.cell?_of_block (setRow_other u (w.heap.size + 1 + 1) (w.heap.size + 1) _ (by omega))).trans hu.2⟩,⟨hu.1.other (by omega) _,(World.cell?_of_block (setRow_other u (w.heap.size + 1 + 1 + 1) (w.heap.size + 1) _ (by omega))).trans hu.2⟩⟩
 · kernel_rfl
 · exact Bl.y_load (t := 2) rfl rfl (by kernel_rfl) fun u hu => hu.1
 · exact Bl.y_load (t := 2) rfl rfl (by kernel_rfl) fun u hu => hu.1
 · exact Bl.y_cser (t := 3) rfl rfl (by kernel_rfl)
 · exact Bl.y_str (t := 80) rfl rfl (by kernel_rfl) fun u hu => hu.2
 · exact fun _ _ _ h => h
 · exact fun _ _ _ h => h
 · exact fun _ _ _ h => h
 · exact fun _ _ _ h => h
 ·
  refine Bl.enters rfl ?_ Tryz.func108 ?_ rfl _
  · kernel_rfl
  · kernel_rfl
 refine (bil_ask s h r.ser U U.drew (Below.refl _ _).drew ((HL.out.lies.below HF.out.bel).below (Below.refl _ _).drew) HR.out).mono ?_
 rintro e u ⟨rfl,b1⟩
 refine ⟨_,rfl,b1,?_,?_,?_,?_,?_⟩
 · kernel_rfl
 · kernel_rfl
 · kernel_rfl
 · kernel_rfl
 have HF1 := Lib.hid (HF.out.below b1)
 clear b1
 go_wp2_with fail
 refine HF1.out.ret Tryz.results57 h (Bl.askR s r.ser) ?_ ?_ ?_ fun b => ?_
 · kernel_rfl
 · kernel_rfl
 · kernel_rfl
 rw [HDS.out,HDR.out,← HI.out.ser]
 exact ⟨_,rfl,(HL.out.below b).wide w,b⟩
end Go.Proofs.YtjpfpojbalepeaaGreat
namespace Go.Proofs.YtjpfpojbalepeaaGreat.Bl
theorem kept_keep {t : St} {c : Cl} {r : Rp.T} (h : Right t) (hl : Sp.ix c.sess t.sess < t.sess.length → Sp.lookE t.sess c.sess c.seq = 0 ∧ Sp.lookO t.sess c.sess c.seq = false) : keepS t c.sess c.seq r = kept t c r := by
 by_cases q : Sp.ix c.sess t.sess < t.sess.length
 ·
  obtain ⟨h1,h2⟩ := hl q
  obtain ⟨k1,k2⟩ := Sp.keep_ok (y := r.why) (n := r.num) (g := r.gross) h1 h2
  rw [keep_ok k1,k2]
  unfold kept keepL
  rw [if_pos q]
 ·
  have h1 : Sp.lookE t.sess c.sess c.seq = 15 := Sp.look_gone h.sess q
  have k1 := (Sp.keep_bad (y := 0) (n := 0) (g := 0) (show Sp.lookE t.sess c.sess c.seq ≠ 0 by rw [h1]; omega)).1
  rw [keep_no (by rw [k1,h1]; omega)]
  unfold kept keepL
  rw [if_neg q]
theorem mark_post (s : St) (k : Nat) (c : ByteArray) (t : Iv.Tot) : postE (markS s k) c t = postE s c t := by
 unfold postE markS
 rw [mark_len]
theorem undo_cred {s : St} {c : Cm} (h : ¬ s.post.length ≤ pix c.ofS c.ofN s.post) : credE s c = if undoE (old s c) c.y c.m c.d ≠ 0 then undoE (old s c) c.y c.m c.d else postE s c.ser (Iv.back (old s c).tot) := by
 unfold credE undoE
 rw [if_neg h]
 by_cases h1 : (old s c).back = true ∨ ¬ Own (old s c)
 · rw [if_pos h1,if_pos h1,if_pos (by omega)]
 ·
  rw [if_neg h1,if_neg h1]
  by_cases h2 : Dt.rightB c.y c.m c.d = false ∨ Dt.days c.y c.m c.d < Dt.days (old s c).y (old s c).m (old s c).d
  · rw [if_pos h2,if_pos h2,if_pos (by omega)]
  · rw [if_neg h2,if_neg h2]
theorem dn_bad {s : St} {c : Cm} (hk : kindB c.kind = true) (h6 : c.kind ≠ 6) (h : doE s c ≠ 0) : dnS s c = s ∧ dnR s c = ⟨doE s c,0,0⟩ := by
 have hk' := kind_iff.1 hk
 unfold dnS dnR
 by_cases k1 : c.kind = 1
 ·
  have e : doE s c = Se.openE s.ser c.ser c.lim := by unfold doE; rw [if_pos k1]
  rw [e] at h ⊢
  rw [if_pos k1,if_pos k1]
  exact ⟨if_neg h,rfl⟩
 by_cases k2 : c.kind = 2
 ·
  have e : doE s c = Se.unE s.ser c.ser := by unfold doE; rw [if_neg k1,if_pos k2]
  rw [e] at h ⊢
  rw [if_neg k1,if_neg k1,if_pos k2,if_pos k2]
  exact ⟨if_neg h,rfl⟩
 by_cases k3 : c.kind = 3
 ·
  have e : doE s c = Vt.putE s.tab c.row := by unfold doE; rw [if_neg k1,if_neg k2,if_pos k3]
  rw [e] at h ⊢
  rw [if_neg k1,if_neg k1,if_neg k2,if_neg k2,if_pos k3,if_pos k3]
  exact ⟨if_neg h,rfl⟩
 by_cases k4 : c.kind = 4
 ·
  have e : doE s c = if Iv.totE s.tab c.y c.m c.d c.lines ≠ 0 then Iv.totE s.tab c.y c.m c.d c.lines else postE s c.ser (Iv.totT s.tab c.y c.m c.d c.lines) := by unfold doE; rw [if_neg k1,if_neg k2,if_neg k3,if_pos k4]
  rw [if_neg k1,if_neg k1,if_neg k2,if_neg k2,if_neg k3,if_neg k3,if_pos k4,if_pos k4]
  unfold billS billR
  by_cases t : Iv.totE s.tab c.y c.m c.d c.lines = 0
  ·
   rw [if_neg (by simpa using t)] at e
   rw [if_pos t,if_pos t,e]
   rw [e] at h
   exact iss_no (p := billP s c) rfl h
  ·
   rw [if_pos t] at e
   rw [if_neg t,if_neg t,e]
   exact ⟨rfl,rfl⟩
 by_cases k5 : c.kind = 5
 ·
  have e : doE s c = credE s c := by unfold doE; rw [if_neg k1,if_neg k2,if_neg k3,if_neg k4,if_pos k5]
  rw [if_neg k1,if_neg k1,if_neg k2,if_neg k2,if_neg k3,if_neg k3,if_neg k4,if_neg k4,if_pos k5,if_pos k5]
  by_cases t : s.post.length ≤ pix c.ofS c.ofN s.post
  ·
   have e2 : credE s c = 11 := by unfold credE; rw [if_pos t]
   rw [e,e2]
   exact cred_none t
  ·
   have e2 := undo_cred t
   by_cases u : undoE (old s c) c.y c.m c.d = 0
   ·
    rw [if_neg (by simpa using u)] at e2
    have hp : postE (credM s c) (credP s c).ser (credP s c).tot = doE s c := by
     have ht : (credP s c).tot = Iv.back (old s c).tot := if_pos u
     rw [ht,e,e2]
     exact mark_post s _ _ _
    have hi := iss_no (s := credM s c) (p := credP s c) hp h
    have := cred_bad t (by simpa using u) (by rw [hi.2]; exact h)
    rw [this.1,this.2,hi.2]
    exact ⟨rfl,rfl⟩
   ·
    rw [if_pos u] at e2
    rw [e,e2]
    exact cred_undo t u
 by_cases k7 : c.kind = 7
 ·
  have e : doE s c = Sp.leaveE s.sess c.sess := by unfold doE; rw [if_neg k1,if_neg k2,if_neg k3,if_neg k4,if_neg k5,if_pos k7]
  rw [e] at h ⊢
  rw [if_neg k1,if_neg k1,if_neg k2,if_neg k2,if_neg k3,if_neg k3,if_neg k4,if_neg k4,if_neg k5,if_neg k5,if_pos k7,if_pos k7]
  exact ⟨if_neg h,rfl⟩
 ·
  have e : doE s c = if Se.ix c.ser s.ser < s.ser.length then 0 else 11 := by unfold doE; rw [if_neg k1,if_neg k2,if_neg k3,if_neg k4,if_neg k5,if_neg k7]
  rw [if_neg k1,if_neg k1,if_neg k2,if_neg k2,if_neg k3,if_neg k3,if_neg k4,if_neg k4,if_neg k5,if_neg k5,if_neg k7,if_neg k7]
  by_cases t : Se.ix c.ser s.ser < s.ser.length
  ·
   rw [e,if_pos t] at h
   exact absurd rfl h
  ·
   rw [e,if_neg t]
   unfold askR
   rw [if_neg t]
   exact ⟨rfl,rfl⟩
theorem dn_good {s : St} {c : Cm} (hk : kindB c.kind = true) (h6 : c.kind ≠ 6) (h : doE s c = 0) : dnS s c = doS s c ∧ dnR s c = doR s c := by
 have hk' := kind_iff.1 hk
 unfold dnS dnR doS doR
 by_cases k1 : c.kind = 1
 ·
  have e : doE s c = Se.openE s.ser c.ser c.lim := by unfold doE; rw [if_pos k1]
  rw [e] at h
  simp only [k1,if_true]
  exact ⟨if_pos h,by rw [h]; simp⟩
 by_cases k2 : c.kind = 2
 ·
  have e : doE s c = Se.unE s.ser c.ser := by unfold doE; rw [if_neg k1,if_pos k2]
  rw [e] at h
  rw [if_neg k1,if_neg k1,if_neg k1,if_pos k2,if_pos k2,if_pos k2]
  refine ⟨if_pos h,?_⟩
  rw [h,if_neg (by omega),if_neg (by omega),if_neg (by omega)]
 by_cases k3 : c.kind = 3
 ·
  have e : doE s c = Vt.putE s.tab c.row := by unfold doE; rw [if_neg k1,if_neg k2,if_pos k3]
  rw [e] at h
  rw [if_neg k1,if_neg k1,if_neg k1,if_neg k2,if_neg k2,if_neg k2,if_pos k3,if_pos k3,if_pos k3]
  refine ⟨if_pos h,?_⟩
  rw [h,if_neg (by omega),if_neg (by omega),if_neg (by omega)]
 by_cases k4 : c.kind = 4
 ·
  have e : doE s c = if Iv.totE s.tab c.y c.m c.d c.lines ≠ 0 then Iv.totE s.tab c.y c.m c.d c.lines else postE s c.ser (Iv.totT s.tab c.y c.m c.d c.lines) := by unfold doE; rw [if_neg k1,if_neg k2,if_neg k3,if_pos k4]
  rw [if_neg k1,if_neg k1,if_neg k1,if_neg k2,if_neg k2,if_neg k2,if_neg k3,if_neg k3,if_neg k3,if_pos k4,if_pos k4,if_pos k4,if_pos k4]
  unfold billS billR
  by_cases t : Iv.totE s.tab c.y c.m c.d c.lines = 0
  ·
   rw [if_neg (by simpa using t)] at e
   rw [if_pos t,if_pos t]
   rw [e] at h
   exact iss_ok (p := billP s c) h
  ·
   rw [if_pos t] at e
   rw [e] at h
   exact absurd h t
 by_cases k5 : c.kind = 5
 ·
  have e : doE s c = credE s c := by unfold doE; rw [if_neg k1,if_neg k2,if_neg k3,if_neg k4,if_pos k5]
  rw [e] at h
  have hc := credE_0 h
  rw [if_neg k1,if_neg k1,if_neg k1,if_neg k2,if_neg k2,if_neg k2,if_neg k3,if_neg k3,if_neg k3,if_neg k4,if_neg k4,if_neg k4,if_neg k4,if_pos k5,if_pos k5,if_pos k5,if_pos k5]
  have t : ¬ s.post.length ≤ pix c.ofS c.ofN s.post := by have := hc.has; omega
  have e2 := undo_cred t
  rw [h] at e2
  have u : undoE (old s c) c.y c.m c.d = 0 := by
   by_cases u : undoE (old s c) c.y c.m c.d = 0
   · exact u
   ·
    rw [if_pos u] at e2
    exact e2.symm
  have ht : (credP s c).tot = Iv.back (old s c).tot := if_pos u
  have hp : postE (credM s c) (credP s c).ser (credP s c).tot = 0 := by
   rw [ht]
   exact (mark_post s _ _ _).trans hc.post
  have hi := iss_ok (s := credM s c) (p := credP s c) hp
  have := cred_ok t (by simpa using u) (by rw [hi.2]; simp)
  rw [this.1,this.2,hi.1,hi.2]
  constructor
  ·
   unfold more issP inv
   rw [ht]
   rfl
  ·
   rw [ht]
   rfl
 by_cases k7 : c.kind = 7
 ·
  have e : doE s c = Sp.leaveE s.sess c.sess := by unfold doE; rw [if_neg k1,if_neg k2,if_neg k3,if_neg k4,if_neg k5,if_pos k7]
  rw [e] at h
  rw [if_neg k1,if_neg k1,if_neg k1,if_neg k2,if_neg k2,if_neg k2,if_neg k3,if_neg k3,if_neg k3,if_neg k4,if_neg k4,if_neg k4,if_neg k4,if_neg k5,if_neg k5,if_neg k5,if_neg k5,if_pos k7,if_pos k7,if_pos k7]
  refine ⟨if_pos h,?_⟩
  rw [h,if_neg (by omega)]
 ·
  have e : doE s c = if Se.ix c.ser s.ser < s.ser.length then 0 else 11 := by unfold doE; rw [if_neg k1,if_neg k2,if_neg k3,if_neg k4,if_neg k5,if_neg k7]
  rw [if_neg k1,if_neg k1,if_neg k1,if_neg k2,if_neg k2,if_neg k2,if_neg k3,if_neg k3,if_neg k3,if_neg k4,if_neg k4,if_neg k4,if_neg k4,if_neg k5,if_neg k5,if_neg k5,if_neg k5,if_neg k7,if_neg k7,if_neg k7,if_pos (show c.kind = 8 by omega)]
  by_cases t : Se.ix c.ser s.ser < s.ser.length
  ·
   unfold askR
   rw [if_pos t]
   exact ⟨rfl,rfl⟩
  ·
   rw [e,if_neg t] at h
   omega
theorem apply_new {s : St} (h : Right s) {c : Cl} (hk : kindB c.cmd.kind = true) (h6 : c.cmd.kind ≠ 6) (hl : Sp.lookE s.sess c.sess c.seq = 0) (ho : Sp.lookO s.sess c.sess c.seq = false) : apply s c = (keepS (dnS s c.cmd) c.sess c.seq (dnR s c.cmd),dnR s c.cmd) := by
 unfold apply
 rw [if_neg (by rw [hk]; simp),if_neg h6,if_neg (by rw [hl]; simp),if_neg (by rw [ho]; simp)]
 by_cases e : doE s c.cmd = 0
 ·
  rw [if_neg (by rw [e]; simp),(dn_good hk h6 e).1,(dn_good hk h6 e).2,kept_keep (h.did e)]
  intro q
  obtain ⟨h1,h2⟩ := did_look h e hl q
  refine ⟨h1,?_⟩
  unfold Sp.lookO at ho ⊢
  rw [h1]
  rw [hl] at ho
  rw [h2]
  exact ho
 · rw [if_pos e,(dn_bad hk h6 e).1,(dn_bad hk h6 e).2,kept_keep h fun _ => ⟨hl,ho⟩]
end Go.Proofs.YtjpfpojbalepeaaGreat.Bl
namespace Go.Proofs.YtjpfpojbalepeaaGreat.Bl
open Vt (Rt)
def Low (e : Int) : Prop := 0 ≤ e ∧ e ≤ 14
theorem low_err (x : Int) : Low (Mn.err x) := by
 unfold Mn.err
 split <;> exact ⟨by omega,by omega⟩
theorem low_open (l : List Sr.T) (c : ByteArray) (n : Int) : Low (Se.openE l c n) := by
 unfold Se.openE
 repeat' split
 all_goals exact ⟨by omega,by omega⟩
theorem low_un (l : List Sr.T) (c : ByteArray) : Low (Se.unE l c) := by
 unfold Se.unE
 repeat' split
 all_goals exact ⟨by omega,by omega⟩
theorem low_take (l : List Sr.T) (c : ByteArray) : Low (Se.takeE l c) := by
 unfold Se.takeE
 split
 · exact low_un l c
 · split <;> exact ⟨by omega,by omega⟩
theorem low_row (r : Rt) : Low (Vt.rowE r) := by
 unfold Vt.rowE
 repeat' split
 all_goals exact ⟨by omega,by omega⟩
theorem low_put (l : List Rt) (r : Rt) : Low (Vt.putE l r) := by
 unfold Vt.putE
 split
 · exact ⟨by omega,by omega⟩
 ·
  split
  · exact low_row r
  ·
   repeat' split
   all_goals exact ⟨by omega,by omega⟩
theorem low_line (rs : List Rt) (y m d : Int) (x : Ln.T) : Low (Iv.lineE rs y m d x) := by
 unfold Iv.lineE
 split
 · exact ⟨by omega,by omega⟩
 ·
  split
  · exact ⟨by omega,by omega⟩
  ·
   split
   · exact ⟨by omega,by omega⟩
   ·
    split
    · exact ⟨by omega,by omega⟩
    · exact low_err _
theorem low_lines (rs : List Rt) (y m d : Int) : ∀ (l : List Ln.T) (ps : List Pt.T),Low (Iv.goE rs y m d l ps)
 | [],ps => by rw [Iv.goE]; exact ⟨by omega,by omega⟩
 | x :: l,ps => by
  rw [Iv.goE]
  split
  · exact low_line rs y m d x
  ·
   split
   · exact ⟨by omega,by omega⟩
   · exact low_lines rs y m d l _
theorem low_tax (n bp : Int) : Low (Sh.taxE n bp) := by
 unfold Sh.taxE Sh.why
 repeat' split
 all_goals exact ⟨by omega,by omega⟩
theorem low_up : ∀ (l : List Pt.T) (a b : Int),Low (Iv.upE l a b)
 | [],a,b => by rw [Iv.upE]; exact ⟨by omega,by omega⟩
 | p :: l,a,b => by
  rw [Iv.upE]
  split
  · exact low_tax _ _
  ·
   split
   · exact ⟨by omega,by omega⟩
   ·
    split
    · exact ⟨by omega,by omega⟩
    · exact low_up l _ _
theorem low_tot (rs : List Rt) (y m d : Int) (ls : List Ln.T) : Low (Iv.totE rs y m d ls) := by
 unfold Iv.totE
 split
 ·
  unfold Iv.headE
  repeat' split
  all_goals exact ⟨by omega,by omega⟩
 ·
  split
  · exact low_lines rs y m d ls []
  ·
   unfold Iv.sumE
   split
   · exact low_up _ _ _
   · exact low_err _
theorem low_back (t : Iv.Tot) : Low (Iv.backE t) := by
 unfold Iv.backE
 repeat' split
 all_goals exact ⟨by omega,by omega⟩
theorem low_entr (l : List Pt.T) : Low (Po.entrE l) := by
 unfold Po.entrE
 split <;> exact ⟨by omega,by omega⟩
theorem low_go : ∀ (l b : List Ba.T),Low (Po.goE l b)
 | [],b => by rw [Po.goE]; exact ⟨by omega,by omega⟩
 | x :: l,b => by
  rw [Po.goE]
  split
  · exact ⟨by omega,by omega⟩
  · exact low_go l _
theorem low_ent (b l : List Ba.T) : Low (Po.entE b l) := by
 unfold Po.entE
 split
 · exact ⟨by omega,by omega⟩
 · exact low_go l b
theorem low_post (s : St) (c : ByteArray) (t : Iv.Tot) : Low (postE s c t) := by
 unfold postE
 split
 · exact low_take _ _
 ·
  split
  · exact ⟨by omega,by omega⟩
  ·
   split
   · exact low_entr _
   · exact low_ent _ _
theorem low_cred (s : St) (c : Cm) : Low (credE s c) := by
 unfold credE
 split
 · exact ⟨by omega,by omega⟩
 ·
  split
  · exact ⟨by omega,by omega⟩
  ·
   split
   · exact ⟨by omega,by omega⟩
   ·
    split
    · exact low_back _
    · exact low_post _ _ _
theorem low_leave (l : List Sn.T) (i : Int) : Low (Sp.leaveE l i) := by
 unfold Sp.leaveE
 repeat' split
 all_goals exact ⟨by omega,by omega⟩
theorem low_do (s : St) (c : Cm) : Low (doE s c) := by
 unfold doE
 split
 · exact low_open _ _ _
 ·
  split
  · exact low_un _ _
  ·
   split
   · exact low_put _ _
   ·
    split
    ·
     split
     · exact low_tot _ _ _ _ _
     · exact low_post _ _ _
    ·
     split
     · exact low_cred _ _
     ·
      split
      · exact low_leave _ _
      · split <;> exact ⟨by omega,by omega⟩
end Go.Proofs.YtjpfpojbalepeaaGreat.Bl
namespace Go.Proofs.YtjpfpojbalepeaaGreat
open Go.RowKit
open Mem
open Go.Sort (grow)
set_option maxHeartbeats 4000000 in
theorem bil_join (P : Nat → Prop) (s : Bl.St) (h : Bl.Sv) (w : World) (hL : Bl.Lp P w h s) (hR : Bl.Right s) :
  Calls Tryz.prog 55 #[h.val] w (Bl.OutE P w (Bl.joinS s).1 (Bl.joinS s).2) := by
 have HL := Lib.hid hL
 have HR := Lib.hid hR
 have hlen := hL.sess.len
 have hnx := hL.next
 have h8 := ((Sp.right_iff _).1 hR.sess).1
 have hM := hR.next
 obtain ⟨U,hU,hA,hF⟩ := Bl.fr3 w h
 have HA := Lib.hid hA
 have HF := Lib.hid hF
 have HUs := Lib.hid hA.lt
 obtain ⟨x0,x1,x2,x3,x4,x5⟩ := hA.cells
 clear hA hF hL hR
 by_cases a8 : h.sess.n = 8
 ·
  have HP : Hid (Bl.joinS s = (s,⟨14,0,0⟩)) := Lib.hid (if_pos (.inl (by omega)))
  have q8 : ((h.sess.n : Int) == 8) = true := beq_iff_eq.2 (by omega)
  clear a8 hlen hnx h8 hM
  unfold Bl.Sv.val Bl.sl
  go_enter Tryz.func55,Tryz.ntmps55
  go_wp2_with fail
  refine Bl.wp_refuseC (w.heap.size) (w.heap.size + 1) (w.heap.size + 1 + 1) h Bl.zsv ⟨0,0,0⟩ (14) HA.out HF.out.st HF.out.rp (by omega) rfl rfl rfl rfl rfl rfl rfl rfl rfl rfl ?_ ?_ ?_ ?_ ?_ ?_ ?_ ?_ ?_
  · kernel_rfl
  · exact fun _ _ _ h => h
  · rfl
  · rfl
  · rfl
  · rfl
  · rfl
  · rfl
  intro w9 b9
  go_wp2_with fail
  exact (HF.out.below b9).ret Tryz.results55 h ⟨14,0,0⟩ rfl rfl rfl fun b => by rw [HP.out]; exact ⟨_,rfl,(HL.out.below b).wide w,b⟩
 ·
  have q8 : ((h.sess.n : Int) == 8) = false := beq_eq_false_iff_ne.2 (by omega)
  by_cases am : h.next = 1099511627776
  ·
   have HP : Hid (Bl.joinS s = (s,⟨14,0,0⟩)) := Lib.hid (if_pos (.inr (by omega)))
   have qm : (h.next == 1099511627776) = true := beq_iff_eq.2 am
   clear a8 hlen hnx h8 hM am
   unfold Bl.Sv.val Bl.sl
   go_enter Tryz.func55,Tryz.ntmps55
   go_wp2_with fail
   refine Bl.wp_refuseC (w.heap.size) (w.heap.size + 1) (w.heap.size + 1 + 1) h Bl.zsv ⟨0,0,0⟩ (14) HA.out HF.out.st HF.out.rp (by omega) rfl rfl rfl rfl rfl rfl rfl rfl rfl rfl ?_ ?_ ?_ ?_ ?_ ?_ ?_ ?_ ?_
   · kernel_rfl
   · exact fun _ _ _ h => h
   · rfl
   · rfl
   · rfl
   · rfl
   · rfl
   · rfl
   intro w9 b9
   go_wp2_with fail
   exact (HF.out.below b9).ret Tryz.results55 h ⟨14,0,0⟩ rfl rfl rfl fun b => by rw [HP.out]; exact ⟨_,rfl,(HL.out.below b).wide w,b⟩
  ·
   have qm : (h.next == 1099511627776) = false := beq_eq_false_iff_ne.2 am
   have HP : Hid (Bl.joinS s = (Bl.joined s,⟨0,s.next,0⟩)) := Lib.hid (if_neg (by omega))
   have HJ := Lib.hid (Bl.join_step HR.out (by omega) (by omega))
   have hfx : h.next + 1 ≤ 9223372036854775807 := by omega
   have hfn : -9223372036854775808 ≤ h.next + 1 := by omega
   have HNx := Lib.hid hnx
   have HNf : Hid (Fit h.next) := Lib.hid (by rw [hnx]; exact HL.out.fit)
   have HNg : Hid (Fit (s.next + 1)) := Lib.hid ⟨by omega,by omega⟩
   rw [← hnx] at HJ
   clear a8 hlen h8 hM am hnx
   unfold Bl.Sv.val Bl.sl
   go_enter Tryz.func55,Tryz.ntmps55
   go_wp2_with fail
   clear hU
   refine (ses_join s.sess h.next h.sess.ao h.sess.n h.sess.cap _ (HL.out.sess.below HF.out.bel) HNf.out).mono ?_
   rintro e w1 ⟨v,rfl,o1,b1⟩
   rw [HJ.out.1]
   rw [HJ.out.2] at o1
   have HSh : Hid (∀ r ∈ s.sess ++ [Sp.new h.next],Sn.Short r) := Lib.hid (HJ.out.2 ▸ Sp.join_short HL.out.sess.short HNf.out)
   obtain ⟨L,hLr⟩ : ∃ L,s.sess ++ [Sp.new h.next] = L := ⟨_,rfl⟩
   have HLr := Lib.hid hLr
   rw [hLr] at o1 HSh
   clear hLr
   obtain ⟨bo,bc,rfl,l1,i1⟩ := Sn.own_ls o1 HSh.out
   obtain ⟨n1,hn1⟩ : ∃ n1,L.length = n1 := ⟨_,rfl⟩
   rw [hn1] at l1 ⊢
   clear hn1
   have HLs := Lib.hid l1
   have HI := Lib.hid (inA_own (n := n1) i1)
   have HB1 := Lib.hid b1
   have hA1 := HA.out.below b1
   have hF1 := HF.out.below b1
   clear l1 i1 b1 o1 x0 x1 x2 x3 x4 x5
   obtain ⟨W2,hW2⟩ : ∃ W2,w1.alloc (.cells (Rp.rw' ⟨0,h.next,0⟩).toArray 49) = W2 := ⟨_,rfl⟩
   obtain ⟨b2,k2,s2⟩ := Bl.al1 w1 (.cells (Rp.rw' ⟨0,h.next,0⟩).toArray 49)
   rw [hW2] at b2 k2 s2
   have hA2 := hA1.below b2
   have hF2 := hF1.below b2
   have hR2 : Rp.Bk W2 w1.heap.size ⟨0,h.next,0⟩ := k2
   have hlt : w.heap.size + 1 + 1 < w1.heap.size := hF1.rp.lt
   obtain ⟨y0,y1,y2,y3,y4,y5⟩ := hA1.cells
   obtain ⟨t0,t1,t2,t3,t4,t5⟩ := hA2.cells
   have z4 := hA2.frozen 4
   have hA3 : Bl.At (W2.setCell ⟨w.heap.size,4,none⟩ (.slice bo n1 bc)) w.heap.size ⟨h.tab,h.ser,h.post,h.book,⟨bo,n1,bc⟩,h.next⟩ := (Bl.set_heap hA2 4 _).trans rfl
   have hF3 := hF2.set (g := w.heap.size) (Nat.le_refl _) (by omega) 4 (.slice bo n1 bc)
   have hR3 := hR2.away (b := w.heap.size) (by omega) 4 (.slice bo n1 bc)
   have e5 : (W2.setCell ⟨w.heap.size,4,none⟩ (.slice bo n1 bc)).cell? ⟨w.heap.size,5,none⟩ = some (.int .i64 h.next) := hA3.cells.2.2.2.2.2
   have z5 : (W2.setCell ⟨w.heap.size,4,none⟩ (.slice bo n1 bc)).frozen? ⟨w.heap.size,5,none⟩ = false := hA3.frozen 5
   have hA4 : Bl.At ((W2.setCell ⟨w.heap.size,4,none⟩ (.slice bo n1 bc)).setCell ⟨w.heap.size,5,none⟩ (.int .i64 (h.next + 1))) w.heap.size ⟨h.tab,h.ser,h.post,h.book,⟨bo,n1,bc⟩,h.next + 1⟩ := (Bl.set_heap hA3 5 _).trans rfl
   have hF4 := hF3.set (g := w.heap.size) (Nat.le_refl _) (by omega) 5 (.int .i64 (h.next + 1))
   have hR4 := hR3.away (b := w.heap.size) (by omega) 5 (.int .i64 (h.next + 1))
   have HA4 := Lib.hid hA4
   have HF4 := Lib.hid hF4
   have HR4 := Lib.hid hR4
   have HB2 := Lib.hid b2
   have HS2 := Lib.hid s2
   clear hA1 hA2 hA3 hA4 hF1 hF2 hF3 hF4 hR2 hR3 hR4 b2 k2 s2
   have hne : w.heap.size ≠ w1.heap.size := by omega
   go_wp2_with (first | ((with_reducible apply Rp.wpl_new (r := ⟨0,h.next,0⟩) (g := w1.heap.size)); rfl; rfl; rfl; rfl; rfl; rfl; rw [hW2]))
   refine Bl.wp_pair (w.heap.size) (w1.heap.size) (w.heap.size + 1) (w.heap.size + 1 + 1) ⟨h.tab,h.ser,h.post,h.book,⟨bo,n1,bc⟩,h.next + 1⟩ Bl.zsv ⟨0,h.next,0⟩ ⟨0,0,0⟩ HA4.out HR4.out HF4.out.st HF4.out.rp (by omega) rfl rfl rfl rfl rfl rfl rfl rfl rfl rfl ?_ ?_ ?_ ?_ ?_ ?_ ?_ ?_ ?_ ?_
   · kernel_rfl
   · exact fun _ _ _ h => h
   · exact fun _ _ _ h => h
   · rfl
   · rfl
   · rfl
   · rfl
   · rfl
   · rfl
   go_wp2_with fail
   refine (HF4.out.below ((Below.refl _ _).drew)).ret Tryz.results55 ⟨h.tab,h.ser,h.post,h.book,⟨bo,n1,bc⟩,h.next + 1⟩ ⟨0,h.next,0⟩ rfl rfl rfl fun b => ?_
   rw [HP.out]
   refine ⟨_,by rw [HNx.out],?_,b⟩
   have hl := (HL.out.below b).wide w
   have hip := HI.out.nw P (w := w) (by have := HUs.out; omega)
   have hk : Kp U.heap.size w1 _ := (Kp.of HB2.out).trans (((Kp.set W2 HUs.out 4 (.slice bo n1 bc)).trans (Kp.set _ HUs.out 5 (.int .i64 (h.next + 1)))).trans ((Kp.of (Below.refl _ _).drew).trans (Bl.kp_out2 _ (by have := HF.out.st.lt; omega) (by have := HF.out.rp.lt; omega) ⟨h.tab,h.ser,h.post,h.book,⟨bo,n1,bc⟩,h.next + 1⟩ ⟨0,h.next,0⟩)))
   have hls := HLs.out.kp HI.out hk
   have hL2 : L = s.sess ++ [Sp.new s.next] := by rw [← HLr.out,HNx.out]
   rw [hL2] at hls
   exact ⟨hl.tab,hl.ser,hl.post,hl.book,hls,rfl,HNg.out,hl.ptab,hl.pser,hl.ppost,hl.pbook,hip⟩
end Go.Proofs.YtjpfpojbalepeaaGreat
namespace Go.Proofs.YtjpfpojbalepeaaGreat
open Go.RowKit
open Mem
open Go.Sort (grow)
def Bl.chkK (ops : Array Oper) : Bool := Region.noSelect ops && Bl.tk ops [false,false,false,false,false,false,false] 0 && Bl.tk ops [true,false,false,false,false,false,false] 1 && Bl.tk ops [true,true,false,false,false,false,false] 2 && Bl.tk ops [true,true,true,false,false,false,false] 4 && (Region.ready .any ops #[true,true,true,false,true,false,false] == [3]) && (Region.ready .any ops #[true,true,true,true,true,false,false] == [5]) && (Region.ready .any ops #[true,true,true,true,true,true,false] == [6]) && (Region.ready .any ops #[true,true,true,true,true,true,true] == [])
theorem Bl.wp_keep {id : Nat} {o0 o1 o2 o3 o4 o5 o6 : Oper} {a : Act} {w : World} {Q : Exit → Act → World → Prop} {S : World → Prop} (h : Bl.Sv) (v1 : Value) (q : Rp.T) (gS gR : Nat) {h0 : Bl.Sv} {r0 : Rp.T} {x5 y5 x6 y6 : Tmp} {f : FuncId} {args : Array Value} (hSB : ∀ u,Below w.heap.size w u → S u) (hSx : ∀ u vs,S u → S (World.setRow u gS vs) ∧ S (World.setRow u gR vs)) (hA : Bl.At w gS h0) (hB : Rp.Bk w gR r0) (hn : gS ≠ gR) (hc : Bl.chkK #[o0,o1,o2,o3,o4,o5,o6] = true)
  (y0 : YieldsIf Tryz.prog #[o0,o1,o2,o3,o4,o5,o6] S o0 h.val a) (y1 : YieldsIf Tryz.prog #[o0,o1,o2,o3,o4,o5,o6] S o1 v1 (a.put o0.dst h.val)) (y2 : YieldsIf Tryz.prog #[o0,o1,o2,o3,o4,o5,o6] S o2 (Rp.val q) ((a.put o0.dst h.val).put o1.dst v1)) (y4 : YieldsIf Tryz.prog #[o0,o1,o2,o3,o4,o5,o6] S o4 (Rp.val q) (((a.put o0.dst h.val).put o1.dst v1).put o2.dst (Rp.val q)))
  (q0 : ∀ c a w,Q (.panic c) (Act.put a o0.dst h.val) w → Q (.panic c) a w) (q1 : ∀ c a w,Q (.panic c) (Act.put a o1.dst v1) w → Q (.panic c) a w) (q2 : ∀ c a w,Q (.panic c) (Act.put a o2.dst (Rp.val q)) w → Q (.panic c) a w) (q4 : ∀ c a w,Q (.panic c) (Act.put a o4.dst (Rp.val q)) w → Q (.panic c) a w)
  (hg3 : o3.guard = none) (hrun : (execOp ((((a.put o0.dst h.val).put o1.dst v1).put o2.dst (Rp.val q)).put o4.dst (Rp.val q)).eval o3).run Tryz.prog w.drew = .ok (.enter f args) w.drew)
  (ho5 : o5.op = .store 42 (.tmp x5) (.tmp y5)) (hg5 : o5.guard = none) (hd5 : o5.dst = none) (ho6 : o6.op = .store 49 (.tmp x6) (.tmp y6)) (hg6 : o6.guard = none) (hd6 : o6.dst = none)
  (k : Calls Tryz.prog f args w.drew fun e u => ∃ h' : Bl.Sv,e = .returned h'.val ∧ Below w.heap.size w u ∧ (((((a.put o0.dst h.val).put o1.dst v1).put o2.dst (Rp.val q)).put o4.dst (Rp.val q)).put o3.dst h'.val).tmps.toList[x5]? = some (.pointer (some ⟨gS,0,none⟩)) ∧ (((((a.put o0.dst h.val).put o1.dst v1).put o2.dst (Rp.val q)).put o4.dst (Rp.val q)).put o3.dst h'.val).tmps.toList[y5]? = some h'.val ∧ (((((a.put o0.dst h.val).put o1.dst v1).put o2.dst (Rp.val q)).put o4.dst (Rp.val q)).put o3.dst h'.val).tmps.toList[x6]? = some (.pointer (some ⟨gR,0,none⟩)) ∧ (((((a.put o0.dst h.val).put o1.dst v1).put o2.dst (Rp.val q)).put o4.dst (Rp.val q)).put o3.dst h'.val).tmps.toList[y6]? = some (Rp.val q) ∧
   Q .normal (((((a.put o0.dst h.val).put o1.dst v1).put o2.dst (Rp.val q)).put o4.dst (Rp.val q)).put o3.dst h'.val) (Bl.out2 u gS gR h' q)) :
  (Code.region id #[o0,o1,o2,o3,o4,o5,o6] true).wp Tryz.prog Q a w := by
 unfold Bl.chkK at hc
 simp only [Bool.and_eq_true,beq_iff_eq] at hc
 obtain ⟨⟨⟨⟨⟨⟨⟨⟨c,c0⟩,c1⟩,c2⟩,c4⟩,c3⟩,c5⟩,c6⟩,c7⟩ := hc
 have hw0 : Below w.heap.size w w.drew := (Below.refl _ _).drew
 refine wp_region_held_drew (S := S) (by kernel_rfl) (hSB _ hw0) (fun hH => ?_)
 show wpAnyH Tryz.prog .any #[o0,o1,o2,o3,o4,o5,o6] Q _ 7 [false,false,false,false,false,false,false].toArray a w.drew
 refine Bl.take_if (i := 0) (oi := o0) rfl c c0 q0 y0 hH ?_
 refine Bl.take_if (i := 1) (oi := o1) rfl c c1 q1 y1 hH ?_
 refine Bl.take_if (i := 2) (oi := o2) rfl c c2 q2 y2 hH ?_
 refine Bl.take_if (i := 4) (oi := o4) rfl c c4 q4 y4 hH ?_
 refine Bl.one_if (i := 3) (oi := o3) rfl c3 (fun K hK => ?_)
 refine Bl.step_call hg3 hrun (k.mono ?_)
 rintro e u ⟨h',rfl,hb,e5,f5,e6,f6,hk⟩
 refine ⟨_,rfl,hK.out _ _ (hSB _ hb) fun hS => ?_⟩
 clear hK K
 refine Bl.one_if (i := 5) (oi := o5) rfl c5 (fun K hK => ?_)
 refine Bl.step_put hg5 ho5 hd5 e5 f5 (hA.below hb) (hK.out _ _ (hSx _ _ hS).1 fun hS2 => ?_)
 clear hK K
 refine Bl.one_if (i := 6) (oi := o6) rfl c6 (fun K hK => ?_)
 refine Rp.step_put hg6 ho6 hd6 e6 f6 ((hB.below hb).other (Ne.symm hn) _) (hK.out _ _ (hSx _ _ hS2).2 fun hS3 => ?_)
 clear hK K
 exact wpAnyH_done c7 hk _
theorem Ca.at_block {w : World} {g : Nat} {r : Ca.T} (h : w.heap[g]? = some (Ca.block r)) : Ca.At w g 0 r := by
 have e := fun k => cell_of_row w g k _ _ _ h
 refine ⟨?_,?_,?_,?_,?_,?_,?_,?_,?_,?_,?_,?_,?_,?_,?_,?_,?_⟩
 all_goals
  rw [e]
  rfl
theorem Ca.y_load {ops : Array Oper} {o : Oper} {a : Act} {S : World → Prop} {t : Tmp} {g : Nat} {r : Ca.T} (hgd : o.guard = none) (ho : o.op = .load 32 (.tmp t)) (hp : a.tmps.toList[t]? = some (.pointer (some ⟨g,0,none⟩))) (hS : ∀ u,S u → u.heap[g]? = some (Ca.block r)) : YieldsIf Tryz.prog ops S o (Ca.val r) a := by
 refine .inl ⟨by simp [Region.wanted,hgd],fun u hu => ?_⟩
 have e := Ca.run_load (Ca.at_block (hS u hu))
 simp only [execOp,ho,Ca.evT hp,Sem.run_bind,e,Result.andThen_ok]
 rfl
theorem Ca.cmd_range {w : World} {b : Nat} {r : Ca.T} (h : Ca.At w b 0 r) : w.rangeAt b 2 (Ca.cmdL r) := by
 intro j v hv
 have hj : j < 15 := (List.getElem?_eq_some_iff.1 hv).1
 match j,hj with
 | 0,_ => exact (h.c2).trans hv
 | 1,_ => exact (h.c3).trans hv
 | 2,_ => exact (h.c4).trans hv
 | 3,_ => exact (h.c5).trans hv
 | 4,_ => exact (h.c6).trans hv
 | 5,_ => exact (h.c7).trans hv
 | 6,_ => exact (h.c8).trans hv
 | 7,_ => exact (h.c9).trans hv
 | 8,_ => exact (h.c10).trans hv
 | 9,_ => exact (h.c11).trans hv
 | 10,_ => exact (h.c12).trans hv
 | 11,_ => exact (h.c13).trans hv
 | 12,_ => exact (h.c14).trans hv
 | 13,_ => exact (h.c15).trans hv
 | 14,_ => exact (h.c16).trans hv
theorem Ca.wpl_cmd2 {ops : Array Oper} {rest : List Oper} {op : Oper} {a : Act} {w : World} {Q : Exit → Act → World → Prop} {t : Tmp} {b : Nat} {r : Ca.T} (h : Ca.At w b 0 r) (ho : op.op = .load 30 (.tmp t)) (hgd : op.guard = none)
  (hx : a.tmps.toList[t]? = some (.pointer (some ⟨b,2,none⟩))) (k : wpList Tryz.prog ops Q rest (a.put op.dst (Ca.cmdV r)) w) : wpList Tryz.prog ops Q (op :: rest) a w :=
 wpList_load_mid hgd 30 (.tmp t) ho b 2 (Ca.evT hx) (Ca.cmdL r) _ (Ca.cmd_range h) Tryz.underlying30 rfl (by rw [Ca.infoC]; rfl) k
theorem Bl.dnR_short {s : Bl.St} {c : Bl.Cm} (hR : Bl.Right s) (hs : ∀ r ∈ s.ser,Sr.Short r) (hb : ∀ r ∈ s.book,Ba.Short r) (hk : Bl.kindB c.kind = true) (h6 : c.kind ≠ 6) : Rp.Short (Bl.dnR s c) := by
 by_cases e : Bl.doE s c = 0
 ·
  rw [(Bl.dn_good hk h6 e).2]
  unfold Bl.doR
  split
  ·
   rename_i k4
   exact ⟨Bl.fit_0,Bl.take_fit hs,(totT_fit _ _ _ _ _).2.2⟩
  ·
   split
   ·
    rename_i k4 k5
    have e5 : Bl.doE s c = Bl.credE s c := by unfold Bl.doE; rw [if_neg (by omega),if_neg (by omega),if_neg (by omega),if_neg (by omega),if_pos k5]
    rw [e5] at e
    have hc := Bl.credE_0 e
    have hr := hR.tot _ (List.getElem_mem hc.has)
    rw [← Bl.old_at hc.has] at hr
    exact ⟨Bl.fit_0,Bl.take_fit hs,(Bl.back_right hr hc.backE).fit.2.2⟩
   ·
    split
    ·
     rename_i k4 k5 k8
     have e8 : Bl.doE s c = if Se.ix c.ser s.ser < s.ser.length then 0 else 11 := by unfold Bl.doE; rw [if_neg (by omega),if_neg (by omega),if_neg (by omega),if_neg (by omega),if_neg (by omega),if_neg (by omega)]
     have hi : Se.ix c.ser s.ser < s.ser.length := by
      by_cases t : Se.ix c.ser s.ser < s.ser.length
      · exact t
      ·
       rw [e8,if_neg t] at e
       omega
     obtain ⟨_,k2,k3,k4'⟩ := Se.sound_iff.1 (((Se.right_iff _).1 hR.ser).2.1 _ (Se.own_mem hi))
     have k5' := Se.lim_iff.1 k2
     refine ⟨Bl.fit_0,⟨?_,?_⟩,(Po.part_short (c := Po.owedA) (by decide) hb).2⟩
     ·
      show (-9223372036854775808 : Int) ≤ (Se.own s.ser c.ser).next - 1
      omega
     ·
      show (Se.own s.ser c.ser).next - 1 ≤ 9223372036854775807
      omega
    · exact ⟨Bl.fit_0,Bl.fit_0,Bl.fit_0⟩
 ·
  rw [(Bl.dn_bad hk h6 e).2]
  have := Bl.low_do s c
  unfold Bl.Low at this
  exact ⟨⟨by show (-9223372036854775808 : Int) ≤ Bl.doE s c; omega,by show Bl.doE s c ≤ 9223372036854775807; omega⟩,Bl.fit_0,Bl.fit_0⟩
set_option maxHeartbeats 1000000 in
theorem bil_follow (P0 : Nat → Prop) (s : Bl.St) (h : Bl.Sv) (r : Ca.T) (c : Bl.Cl) (w : World) (hL : Bl.Lp P0 w h s) (hI : Bl.IsC w r c) (hS : Ca.Short r) (hR : Bl.Right s) :
  Calls Tryz.prog 25 #[h.val,Ca.val r] w (Bl.OutE P0 w (Bl.apply s c).1 (Bl.apply s c).2) := by
 have HL := Lib.hid hL
 have HI := Lib.hid hI
 have HSh := Lib.hid hS
 have HR := Lib.hid hR
 have HKd := Lib.hid hI.kind
 obtain ⟨U,hU,hA,hF,hBk⟩ := Bl.fr4 w h (Ca.block r)
 have c0 : U.cell? ⟨w.heap.size + 1,0,none⟩ = some (.int .i64 r.sess) := by rw [cell_of_row U _ 0 _ _ _ hBk]; rfl
 have c1 : U.cell? ⟨w.heap.size + 1,1,none⟩ = some (.int .i64 r.seq) := by rw [cell_of_row U _ 1 _ _ _ hBk]; rfl
 have c2 : U.cell? ⟨w.heap.size + 1,2,none⟩ = some (.int .i64 r.kind) := by rw [cell_of_row U _ 2 _ _ _ hBk]; rfl
 have HA := Lib.hid hA
 have HF := Lib.hid hF
 have HBk := Lib.hid hBk
 have HUs : Hid (w.heap.size + 1 + 1 + 1 < U.heap.size) := Lib.hid hF.rp.lt
 obtain ⟨x0,x1,x2,x3,x4,x5⟩ := hA.cells
 have HC : Hid (Ca.At U (w.heap.size + 1) 0 r) := Lib.hid (Ca.at_block hBk)
 clear hL hI hS hR hF hBk
 unfold Bl.Sv.val Bl.sl Ca.val
 unfold Ca.block at hU
 go_enter Tryz.func25,Tryz.ntmps25
 go_wp2_with fail
 clear hU
 refine (bil_known r.kind U).mono ?_
 rintro e U2 ⟨rfl,hU2⟩
 have hU3 := hU2.symm
 clear hU2
 subst hU3
 have hkd := HKd.out
 cases hkn : Bl.kindB r.kind
 ·
  have HP : Hid (Bl.apply s c = (s,⟨17,0,0⟩)) := Lib.hid (by unfold Bl.apply; rw [if_pos (hkd ▸ hkn)])
  clear hkn hkd
  go_wp2_with fail
  refine Bl.wp_refuseC (w.heap.size) (w.heap.size + 1 + 1) (w.heap.size + 1 + 1 + 1) h Bl.zsv ⟨0,0,0⟩ (17) HA.out HF.out.st HF.out.rp (by omega) rfl rfl rfl rfl rfl rfl rfl rfl rfl rfl ?_ ?_ ?_ ?_ ?_ ?_ ?_ ?_ ?_
  · kernel_rfl
  · exact fun _ _ _ h => h
  · rfl
  · rfl
  · rfl
  · rfl
  · rfl
  · rfl
  intro w9 b9
  go_wp2_with fail
  exact (HF.out.below b9).ret Tryz.results25 h ⟨17,0,0⟩ rfl rfl rfl fun b => by rw [HP.out]; exact ⟨_,rfl,(HL.out.below b).wide w,b⟩
 ·
  have HKn : Hid (Bl.kindB c.cmd.kind = true) := Lib.hid (hkd ▸ hkn)
  clear hkn
  by_cases h6 : r.kind = 6
  ·
   have HP : Hid (Bl.apply s c = Bl.joinS s) := Lib.hid (by unfold Bl.apply Bl.joinS; rw [if_neg (by rw [HKn.out]; simp),if_pos (hkd ▸ h6)])
   rw [h6] at c2
   clear hkd h6
   go_wp2_with (first | ((with_reducible apply Bl.wpl_load hA); rfl; rfl; rfl))
   refine (bil_join (fun b => P0 b ∧ b < w.heap.size) s h U (HL.out.lt.below HF.out.bel) HR.out).mono ?_
   rintro e w3 ⟨h',rfl,hL3,b3⟩
   have HL3 := Lib.hid hL3
   have hF3 := HF.out.below b3
   have HF3 := Lib.hid hF3
   have hS3 := hF3.st
   have hR3 := hF3.rpS h'
   obtain ⟨q,hq⟩ : ∃ q,(Bl.joinS s).2 = q := ⟨_,rfl⟩
   have HQ := Lib.hid hq
   rw [hq]
   clear hq hL3 b3 hF3 hA c0 c1 c2 x0 x1 x2 x3 x4 x5
   go_wp2_with (first | ((with_reducible apply Bl.wpl_put (h := h') hS3); rfl; rfl; rfl; rfl) | ((with_reducible apply Rp.wpl_put (r := q) hR3); rfl; rfl; rfl; rfl))
   refine HF3.out.ret Tryz.results25 h' q rfl rfl rfl fun b => ?_
   rw [HP.out,HQ.out]
   exact ⟨_,rfl,(HL3.out.out2 (w := w) (fun b z => z.2) (by omega) (by have := HUs.out; omega) (by omega) (by have := HUs.out; omega)).mono (fun b z => z.elim (fun y => .inl y.1) .inr),b⟩
  ·
   have q6 : (r.kind == 6) = false := beq_eq_false_iff_ne.2 h6
   have H6 : Hid (c.cmd.kind ≠ 6) := Lib.hid (hkd ▸ h6)
   have HLk : Hid (Sp.lookE s.sess c.sess c.seq ≠ 0 → Bl.apply s c = (s,⟨Sp.lookE s.sess c.sess c.seq,0,0⟩)) := Lib.hid fun z => by unfold Bl.apply; rw [if_neg (by rw [HKn.out]; simp),if_neg H6.out,if_pos z]
   have HOl : Hid (Sp.lookE s.sess c.sess c.seq = 0 → Sp.lookO s.sess c.sess c.seq = true → Bl.apply s c = (s,Bl.told (Sp.own s.sess c.sess))) := Lib.hid fun z y => by unfold Bl.apply; rw [if_neg (by rw [HKn.out]; simp),if_neg H6.out,if_neg (by rw [z]; simp),if_pos y]
   have HNw : Hid (Sp.lookE s.sess c.sess c.seq = 0 → Sp.lookO s.sess c.sess c.seq = false → Bl.apply s c = (Bl.keepS (Bl.dnS s c.cmd) c.sess c.seq (Bl.dnR s c.cmd),Bl.dnR s c.cmd)) := Lib.hid fun z y => Bl.apply_new HR.out HKn.out H6.out z y
   clear hkd h6
   go_wp2_with fail
   refine Calls.mono (R := LookE U s.sess c.sess c.seq) ?_ ?_
   ·
    rw [HI.out.sess,HI.out.seq]
    exact ses_look s.sess c.sess c.seq h.sess.ao h.sess.n h.sess.cap U U (Below.refl _ _) (HL.out.sess.below HF.out.bel) (HI.out.sess ▸ HSh.out.1) (HI.out.seq ▸ HSh.out.2.1)
   rintro e w1 ⟨rfl,b1⟩
   have HTl : Hid (Sp.lookE s.sess c.sess c.seq = 0 → Sp.lookO s.sess c.sess c.seq = true → Sp.rep (Sp.lookT s.sess c.sess c.seq) = Bl.told (Sp.own s.sess c.sess)) := Lib.hid fun z y => by
    unfold Sp.lookT
    rw [if_pos y]
    rfl
   obtain ⟨E,hE⟩ : ∃ E,Sp.lookE s.sess c.sess c.seq = E := ⟨_,rfl⟩
   obtain ⟨O,hO⟩ : ∃ O,Sp.lookO s.sess c.sess c.seq = O := ⟨_,rfl⟩
   obtain ⟨T,hT⟩ : ∃ T,Sp.rep (Sp.lookT s.sess c.sess c.seq) = T := ⟨_,rfl⟩
   rw [hE] at HLk HOl HNw HTl ⊢
   rw [hO] at HOl HNw HTl ⊢
   rw [hT] at HTl ⊢
   clear hE hO hT
   have hA1 := hA.below b1
   have hF1 := HF.out.below b1
   have hBk1 := (b1.block _ (by have := HUs.out; omega)).trans HBk.out
   have HU1 := Lib.hid b1.size
   have HB1 := Lib.hid (bchain HF.out.bel b1)
   obtain ⟨w2,hw2⟩ : ∃ w2,w1.alloc (.cells (Rp.rw' T).toArray 49) = w2 := ⟨_,rfl⟩
   obtain ⟨b2,k2,s2⟩ := Bl.al1 w1 (.cells (Rp.rw' T).toArray 49)
   rw [hw2] at b2 k2 s2
   have hR2 : Rp.Bk w2 w1.heap.size T := k2
   have hA2 := hA1.below b2
   have hF2 := hF1.below b2
   have hBk2 := (b2.block _ (by have := HUs.out; have := HU1.out; omega)).trans hBk1
   have HA2 := Lib.hid hA2
   have HF2 := Lib.hid hF2
   have HR2 := Lib.hid hR2
   have HBk2 := Lib.hid hBk2
   have HB2 := Lib.hid (bchain HB1.out b2)
   have HSz : Hid (w.heap.size + 1 + 1 + 1 < U.heap.size ∧ U.heap.size ≤ w1.heap.size ∧ w2.heap.size = w1.heap.size + 1) := Lib.hid ⟨HUs.out,HU1.out,s2⟩
   have hC2 := Ca.at_block hBk2
   clear b1 b2 k2 s2 hA hA1 hF1 hF2 hBk1 hBk2 hR2 c0 c1 c2 x0 x1 x2 x3 x4 x5
   by_cases hE0 : E = 0
   ·
    subst hE0
    cases O
    ·
     have HP := Lib.hid (HNw.out rfl rfl)
     go_wp2_with (first | ((with_reducible apply Rp.wpl_new (r := T) (g := w1.heap.size)); rfl; rfl; rfl; rfl; rfl; rfl; rw [hw2]) | ((with_reducible apply Bl.wpl_load hA2); rfl; rfl; rfl) | ((with_reducible apply Ca.wpl_cmd2 hC2); rfl; rfl; rfl))
     refine Calls.mono (R := Bl.OutE (fun b => P0 b ∧ b < w.heap.size) w2 (Bl.dnS s c.cmd) (Bl.dnR s c.cmd)) ?_ ?_
     ·
      have hkk : c.cmd.kind = 1 ∨ c.cmd.kind = 2 ∨ c.cmd.kind = 3 ∨ c.cmd.kind = 4 ∨ c.cmd.kind = 5 ∨ c.cmd.kind = 7 ∨ c.cmd.kind = 8 := by have := Bl.kind_iff.1 HKn.out; have := H6.out; omega
      have hl := HL.out.lt.below HB2.out
      have hi := HI.out.isM.below HB2.out
      rcases hkk with z | z | z | z | z | z | z
      · exact bil_do1 _ s h r c.cmd w2 hl hi HSh.out HR.out z
      · exact bil_do2 _ s h r c.cmd w2 hl hi HSh.out HR.out z
      · exact bil_do3 _ s h r c.cmd w2 hl hi HSh.out HR.out z
      · exact bil_do4 _ s h r c.cmd w2 hl hi HSh.out HR.out z
      · exact bil_do5 _ s h r c.cmd w2 hl hi HSh.out HR.out z
      · exact bil_do7 _ s h r c.cmd w2 hl hi HSh.out HR.out z
      · exact bil_do8 _ s h r c.cmd w2 hl hi HSh.out HR.out z
     rintro e w3 ⟨h',rfl,hL3,b3⟩
     have HRs := Lib.hid (Bl.dnR_short HR.out HL.out.ser.short HL.out.book.short HKn.out H6.out)
     obtain ⟨q,hq⟩ : ∃ q,Bl.dnR s c.cmd = q := ⟨_,rfl⟩
     rw [hq] at HRs HP ⊢
     obtain ⟨d,hd⟩ : ∃ d,Bl.dnS s c.cmd = d := ⟨_,rfl⟩
     rw [hd] at HP hL3
     clear hq hd
     have hF3 := HF2.out.below b3
     have hBk3 := (b3.block _ (by have := HSz.out; omega)).trans HBk2.out
     have HB3 := Lib.hid (bchain HB2.out b3)
     have HU3 := Lib.hid b3.size
     obtain ⟨w4,hw4,b4,k0,k1,s4⟩ := Bl.al2 w3 (.cells #[.slice none 0 0,.slice none 0 0,.slice none 0 0,.slice none 0 0,.slice none 0 0,.int .i64 0] 42) (.cells #[.int .i64 0,.int .i64 0,.int .i64 0] 49)
     have hD4 : Bl.At w4 w3.heap.size Bl.zsv := k0
     have hE4 : Rp.Bk (Bl.lay w4 w3.heap.size h') (w3.heap.size + 1) ⟨0,0,0⟩ := Rp.Bk.other (show Rp.Bk w4 (w3.heap.size + 1) ⟨0,0,0⟩ from k1) (by omega) _
     have hF4 := ((hF3.below b4).other (b := w3.heap.size) (by have := HSz.out; have := HU3.out; omega) (by have := HSz.out; have := HU3.out; omega) (Bl.rv h').toArray).other (b := w3.heap.size + 1) (by have := HSz.out; have := HU3.out; omega) (by have := HSz.out; have := HU3.out; omega) (Rp.rw' q).toArray
     have hBk4 : (Bl.out2 w4 w3.heap.size (w3.heap.size + 1) h' q).heap[w.heap.size + 1]? = some (Ca.block r) := (setRow_other _ (w3.heap.size + 1) (w.heap.size + 1) _ (by have := HSz.out; have := HU3.out; omega)).trans ((setRow_other _ w3.heap.size (w.heap.size + 1) _ (by have := HSz.out; have := HU3.out; omega)).trans ((b4.block _ (by have := HSz.out; have := HU3.out; omega)).trans hBk3))
     have hD5 : Bl.At (Bl.out2 w4 w3.heap.size (w3.heap.size + 1) h' q) w3.heap.size h' := (hD4.lay h').other (by omega) _
     have hE5 : Rp.Bk (Bl.out2 w4 w3.heap.size (w3.heap.size + 1) h' q) (w3.heap.size + 1) q := hE4.lay q
     have hl5 : Bl.Lp (fun b => nw (fun b => P0 b ∧ b < w.heap.size) w2 b ∧ b < w3.heap.size) (Bl.out2 w4 w3.heap.size (w3.heap.size + 1) h' q) h' d := ((hL3.lt.below b4).kp (KpP.row w4 (fun z => by have := z.2; omega) _)).kp (KpP.row _ (fun z => by have := z.2; omega) _)
     obtain ⟨w5,hw5⟩ : ∃ w5,Bl.out2 w4 w3.heap.size (w3.heap.size + 1) h' q = w5 := ⟨_,rfl⟩
     have hw5' : Rp.lay (Bl.lay w4 w3.heap.size h') (w3.heap.size + 1) q = w5 := hw5
     have hs5 : w5.heap.size = w4.heap.size := by rw [← hw5]; simp [Bl.out2,Rp.lay,Bl.lay,World.setRow]
     rw [hw5] at hBk4 hD5 hE5 hl5
     have hF5 : Bl.Fr w w5 (w.heap.size + 1 + 1) (w.heap.size + 1 + 1 + 1) := hw5 ▸ hF4
     have HD5 := Lib.hid hD5
     have HE5 := Lib.hid hE5
     have HF5 := Lib.hid hF5
     have HBk5 := Lib.hid hBk4
     have HL5 := Lib.hid hl5
     have HS5 : Hid (U.heap.size ≤ w2.heap.size ∧ w2.heap.size ≤ w3.heap.size ∧ w4.heap.size = w3.heap.size + 1 + 1 ∧ w5.heap.size = w4.heap.size) := Lib.hid ⟨by have := HSz.out; omega,HU3.out,s4,hs5⟩
     clear b3 b4 k0 k1 s4 hF3 hF4 hF5 hBk3 hBk4 hD5 hE5 hl5 hL3 hA2 hC2 hw2 hs5 hw5
     go_wp2_with (first | ((with_reducible apply Bl.wpl_put (h := h') hD4); rfl; rfl; rfl; rfl) | ((with_reducible apply Rp.wpl_put (r := q) hE4); rfl; rfl; rfl; rfl; rw [hw5']))
     clear hw4 hw5' hD4 hE4
     refine Bl.wp_keep (S := fun u => Bl.At u w3.heap.size h' ∧ Rp.Bk u (w3.heap.size + 1) q ∧ u.heap[w.heap.size + 1]? = some (Ca.block r)) (f := 58) (args := #[h'.val,Ca.val r,Rp.val q]) h' (Ca.val r) q (w.heap.size + 1 + 1) (w.heap.size + 1 + 1 + 1) ?_ ?_ HF5.out.st HF5.out.rp (by omega) ?_ ?_ ?_ ?_ ?_ ?_ ?_ ?_ ?_ rfl ?_ rfl rfl rfl rfl rfl rfl ?_
     ·
      intro u hb
      exact ⟨HD5.out.below hb,HE5.out.below hb,(hb.block _ (by have := HSz.out; have := HS5.out; omega)).trans HBk5.out⟩
     ·
      intro u vs hu
      exact ⟨⟨hu.1.other (by have := HSz.out; have := HS5.out; omega) _,hu.2.1.other (by have := HSz.out; have := HS5.out; omega) _,(setRow_other u _ _ _ (by omega)).trans hu.2.2⟩,⟨hu.1.other (by have := HSz.out; have := HS5.out; omega) _,hu.2.1.other (by have := HSz.out; have := HS5.out; omega) _,(setRow_other u _ _ _ (by omega)).trans hu.2.2⟩⟩
     · kernel_rfl
     · exact Bl.y_load (t := 9) rfl rfl (by kernel_rfl) fun u hu => hu.1
     · exact Ca.y_load (t := 3) rfl rfl (by kernel_rfl) fun u hu => hu.2.2
     · exact Rp.y_load (t := 10) rfl rfl (by kernel_rfl) fun u hu => hu.2.1
     · exact Rp.y_load (t := 10) rfl rfl (by kernel_rfl) fun u hu => hu.2.1
     · exact fun _ _ _ h => h
     · exact fun _ _ _ h => h
     · exact fun _ _ _ h => h
     · exact fun _ _ _ h => h
     ·
      refine Bl.enters rfl ?_ Tryz.func58 ?_ rfl _
      · kernel_rfl
      · kernel_rfl
     refine (bil_keep (nw (fun b => P0 b ∧ b < w.heap.size) U) d h' r q w5.drew ((HL5.out.mono (fun b z => z.1.elim .inl (fun y => .inr (by have := HS5.out; omega)))).below (Below.refl _ _).drew) HSh.out.1 HSh.out.2.1 HRs.out).mono ?_
     rintro e u ⟨hk,rfl,hlk,bk⟩
     have b6 : Below w5.heap.size w5 u := bchain (Below.refl _ _).drew bk
     refine ⟨hk,rfl,b6,?_,?_,?_,?_,?_⟩
     · kernel_rfl
     · kernel_rfl
     · kernel_rfl
     · kernel_rfl
     have HF6 := Lib.hid (HF5.out.below b6)
     have HLk6 := Lib.hid hlk
     clear bk b6 hlk
     go_wp2_with fail
     refine HF6.out.ret Tryz.results25 hk q ?_ ?_ ?_ fun b => ?_
     · kernel_rfl
     · kernel_rfl
     · kernel_rfl
     rw [HP.out]
     refine ⟨_,rfl,?_,b⟩
     have e1 := (HLk6.out.mono (nw_nw (u := U) (w := w5.drew) (by show U.heap.size ≤ w5.heap.size; have := HS5.out; omega))).out2 (w := w) (gS := w.heap.size + 1 + 1) (gR := w.heap.size + 1 + 1 + 1) (h := hk) (r := q) (fun b z => z.2) (by omega) (by have := HUs.out; omega) (by omega) (by have := HUs.out; omega)
     rw [HI.out.sess,HI.out.seq] at e1
     exact e1.mono (fun b z => z.elim (fun y => .inl y.1) .inr)
    ·
     have HP : Hid (Bl.apply s c = (s,T)) := Lib.hid (by rw [HTl.out rfl rfl]; exact HOl.out rfl rfl)
     go_wp2_with (first | ((with_reducible apply Rp.wpl_new (r := T) (g := w1.heap.size)); rfl; rfl; rfl; rfl; rfl; rfl; rw [hw2]))
     refine Bl.wp_pair (w.heap.size) (w1.heap.size) (w.heap.size + 1 + 1) (w.heap.size + 1 + 1 + 1) h Bl.zsv T ⟨0,0,0⟩ HA2.out HR2.out HF2.out.st HF2.out.rp (by have := HSz.out; omega) rfl rfl rfl rfl rfl rfl rfl rfl rfl rfl ?_ ?_ ?_ ?_ ?_ ?_ ?_ ?_ ?_ ?_
     · kernel_rfl
     · exact fun _ _ _ h => h
     · exact fun _ _ _ h => h
     · rfl
     · rfl
     · rfl
     · rfl
     · rfl
     · rfl
     go_wp2_with fail
     exact (HF2.out.below ((Below.refl _ _).drew)).ret Tryz.results25 h T rfl rfl rfl fun b => by rw [HP.out]; exact ⟨_,rfl,(HL.out.below b).wide w,b⟩
   ·
    have hq : (E == 0) = false := beq_eq_false_iff_ne.2 hE0
    have HP := Lib.hid (HLk.out hE0)
    go_wp2_with (first | ((with_reducible apply Rp.wpl_new (r := T) (g := w1.heap.size)); rfl; rfl; rfl; rfl; rfl; rfl; rw [hw2]))
    refine Bl.wp_refuse (w.heap.size) (w.heap.size + 1 + 1) (w.heap.size + 1 + 1 + 1) h Bl.zsv ⟨0,0,0⟩ (E) HA2.out HF2.out.st HF2.out.rp (by omega) rfl rfl rfl rfl rfl rfl rfl rfl rfl rfl rfl rfl ?_ ?_ ?_ ?_ ?_ ?_ ?_ ?_ ?_ ?_ ?_
    · kernel_rfl
    · exact fun _ _ _ h => h
    · exact fun _ _ _ h => h
    · rfl
    · rfl
    · rfl
    · rfl
    · rfl
    · rfl
    · rfl
    intro w9 b9
    go_wp2_with fail
    exact (HF2.out.below b9).ret Tryz.results25 h ⟨E,0,0⟩ rfl rfl rfl fun b => by rw [HP.out]; exact ⟨_,rfl,(HL.out.below b).wide w,b⟩
end Go.Proofs.YtjpfpojbalepeaaGreat
namespace Go.Proofs.YtjpfpojbalepeaaGreat.Bl
theorem play_one (s : St) (c : Cl) : play s [c] = ((apply s c).1,[(apply s c).2]) := rfl
theorem apply_len (s : St) (c : Cl) : (apply s c).1.post.length = s.post.length ∨ (apply s c).1.post.length = s.post.length + 1 := by
 by_cases h : (apply s c).1.post.length = s.post.length
 · exact .inl h
 · exact .inr (grown h).len
end Go.Proofs.YtjpfpojbalepeaaGreat.Bl
namespace Go.Proofs.YtjpfpojbalepeaaGreat.Rp
open Go.RowKit
open Mem
def rv (r : T) : List Value := [.int .i64 r.why,.int .i64 r.num,.int .i64 r.gross]
theorem rv_len (r : T) : (rv r).length = 3 := rfl
theorem flat_len : ∀ rs : List T,(rs.flatMap rv).length = rs.length * 3
 | [] => rfl
 | r :: l => by
  rw [List.flatMap_cons,List.length_append,rv_len,flat_len l,List.length_cons]
  omega
theorem flat_at : ∀ (rs : List T) (k p : Nat) (hk : k < rs.length),p < 3 → (rs.flatMap rv)[k * 3 + p]? = (rv rs[k])[p]?
 | r :: l,0,p,_,hp => by
  rw [List.flatMap_cons,List.getElem?_append_left (by rw [rv_len]; omega),Nat.zero_mul,Nat.zero_add]
  rfl
 | r :: l,k + 1,p,hk,hp => by
  rw [List.flatMap_cons,List.getElem?_append_right (by rw [rv_len]; omega),rv_len,show (k + 1) * 3 + p - 3 = k * 3 + p by omega]
  exact flat_at l k p (by simpa using hk) hp
def zero : T := ⟨0,0,0⟩
def zeroV : Value := .agg #[.int .i64 0,.int .i64 0,.int .i64 0]
theorem info : (Tryz.prog.info? 49).map (fun i => (i.zero,i.size,i.bytes)) = some (some zeroV,3,24) := by kernel_rfl
end Go.Proofs.YtjpfpojbalepeaaGreat.Rp
namespace Go.Proofs.YtjpfpojbalepeaaGreat.Rp
open Go.RowKit
open Mem
def Block (w : World) (g : Nat) (ts : List T) : Prop := w.heap[g]? = some (.cells (ts.flatMap rv).toArray 49 (0,0))
theorem Block.lt {w : World} {g : Nat} {ts : List T} (h : Block w g ts) : g < w.heap.size := by
 obtain ⟨hg,_⟩ := Array.getElem?_eq_some_iff.1 h
 exact hg
theorem Block.below {w u : World} {g : Nat} {ts : List T} (h : Block w g ts) (k : Below w.heap.size w u) : Block u g ts := (k.block g h.lt).trans h
theorem Block.row {w : World} {g : Nat} {ts : List T} (h : Block w g ts) (k : Nat) (hk : k < ts.length) : At w g (k * 3) ts[k] := by
 have hcell : ∀ p,p < 3 → w.cell? ⟨g,k * 3 + p,none⟩ = (rv ts[k])[p]? := by
  intro p hp
  rw [cell_of_row w g _ _ _ _ h,← flat_at ts k p hk hp]
  simp
 exact ⟨hcell 0 (by omega),hcell 1 (by omega),hcell 2 (by omega)⟩
theorem Block.frozen {w : World} {g : Nat} {ts : List T} (h : Block w g ts) (k : Nat) : w.frozen? ⟨g,k,none⟩ = false := frozen_of_row w g k _ _ h
theorem Block.ls {w : World} {g : Nat} {ts zs : List T} (h : Block w g (ts ++ zs)) (n cap : Nat) (hn : n = ts.length) (hc : n ≤ cap) (hm : cap ≤ 9223372036854775807) (hs : ∀ r ∈ ts,Short r) : Ls w (some ⟨g,0,none⟩) n cap ts := by
 refine ⟨hn,hc,hm,(fun k => by cases k),.inr ⟨g,0,rfl,fun k hk => ?_⟩,hs⟩
 have hr := h.row k (by rw [List.length_append]; omega)
 rw [List.getElem_append_left hk] at hr
 rw [Nat.zero_add]
 exact hr
def zeros (n : Nat) : Array Value := ((List.replicate n zero).flatMap rv).toArray
theorem made (n : Nat) : madeCells zeroV.cells (n * 3) = zeros n := by
 apply Array.ext_getElem?
 intro j
 by_cases hj : j < n * 3
 ·
  obtain ⟨k,p,rfl,hp⟩ : ∃ k p,j = k * 3 + p ∧ p < 3 := ⟨j / 3,j % 3,by omega,by omega⟩
  have hk : k < n := by omega
  have hz : (zeros n)[k * 3 + p]? = (rv zero)[p]? := by
   unfold zeros
   rw [List.getElem?_toArray,flat_at (List.replicate n zero) k p (by simpa using hk) hp,List.getElem_replicate]
  rw [hz]
  have e : (k * 3 + p) % 3 = p := by omega
  have hp' : p = 0 ∨ p = 1 ∨ p = 2 := by omega
  unfold madeCells
  rw [Array.getElem?_map,Array.getElem?_range,if_pos hj]
  simp only [Option.map_some]
  rw [show zeroV.cells.size = 3 from rfl,e]
  rcases hp' with rfl | rfl | rfl <;> rfl
 ·
  rw [Array.getElem?_eq_none (by rw [size_madeCells]; omega),Array.getElem?_eq_none]
  unfold zeros
  rw [List.size_toArray,flat_len,List.length_replicate]
  omega
theorem make (n : Nat) (hn : n ≤ 100000) (u : World) : (Instr.makeSlice 43 (.int .i64 (n : Int)) (.int .i64 (n : Int))).run Tryz.prog u =
  .ok (.slice (some ⟨u.heap.size,0,none⟩) n n) (u.alloc (.cells (zeros n) 49)) := by
 obtain ⟨i0,hi,hz0,hz1,hz2⟩ := info_parts info
 have h := run_make (P := Tryz.prog) u 43 49 i0 zeroV Tryz.underlying43 hi hz0 .i64 .i64 (n : Int) (n : Int) (by omega) (Int.le_refl _) (by rw [hz2]; omega) (by omega)
 rw [hz1,Int.toNat_natCast,made] at h
 exact h
theorem block_made (u : World) (n : Nat) : Block (u.alloc (.cells (zeros n) 49)) u.heap.size (List.replicate n zero) := heap_alloc_new u _
theorem set_right {a : T} (X : List Value) (k p : Nat) (v : Value) : (rv a ++ X).set ((k + 1) * 3 + p) v = rv a ++ X.set (k * 3 + p) v := by
 rw [List.set_append_right _ _ (by rw [rv_len]; omega),rv_len,show (k + 1) * 3 + p - 3 = k * 3 + p by omega]
theorem flat_set : ∀ (ts : List T) (k : Nat) (r : T),k < ts.length → (ts.set k r).flatMap rv = ((((ts.flatMap rv).set (k * 3) (.int .i64 r.why)).set (k * 3 + 1) (.int .i64 r.num)).set (k * 3 + 2) (.int .i64 r.gross)) := by
 intro ts
 induction ts with
 | nil =>
  intro k r h
  simp at h
 | cons a l ih =>
 intro k r h
 cases k with
 | zero =>
  rw [List.set_cons_zero,List.flatMap_cons,List.flatMap_cons]
  simp only [rv,Nat.zero_mul,Nat.zero_add,List.cons_append,List.nil_append,List.set_cons_zero,List.set_cons_succ]
 | succ k =>
  have ih := ih k r (by simpa using h)
  have e0 := fun (X : List Value) (v : Value) => set_right (a := a) X k 0 v
  simp only [Nat.add_zero] at e0
  rw [List.set_cons_succ,List.flatMap_cons,ih,List.flatMap_cons,e0,set_right,set_right]
theorem Block.store {w : World} {g : Nat} {ts : List T} (h : Block w g ts) (k : Nat) (hk : k < ts.length) (r : T) :
  Block (((w.setCell ⟨g,k * 3,none⟩ (.int .i64 r.why)).setCell ⟨g,k * 3 + 1,none⟩ (.int .i64 r.num)).setCell ⟨g,k * 3 + 2,none⟩ (.int .i64 r.gross)) g (ts.set k r) := by
 have h1 := heap_setCell_same _ g (k * 3) _ _ (.int .i64 r.why) h
 have h2 := heap_setCell_same _ g (k * 3 + 1) _ _ (.int .i64 r.num) h1
 have h3 := heap_setCell_same _ g (k * 3 + 2) _ _ (.int .i64 r.gross) h2
 unfold Block
 rw [h3,flat_set ts k r hk]
 simp only [List.setIfInBounds_toArray]
theorem below_store {B g : Nat} {w0 w : World} (h : Below B w0 w) (hg : B ≤ g) (k : Nat) (x0 x1 x2 : Value) :
  Below B w0 (((w.setCell ⟨g,k * 3,none⟩ x0).setCell ⟨g,k * 3 + 1,none⟩ x1).setCell ⟨g,k * 3 + 2,none⟩ x2) :=
 (((h.setCell hg x0).setCell hg x1).setCell hg x2)
end Go.Proofs.YtjpfpojbalepeaaGreat.Rp
