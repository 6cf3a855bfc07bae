import Derived.Laws.CopyOwn
import Derived.Laws.MakeOwn
import Derived.Deep.RegionLaw
import Derived.Deep.DeepCutAuto
import Derived.Deep.CutBlock
import Derived.Test.YtjpfpojbalepeaaGreatZG1
import Derived.Test.YtjpfpojbalepeaaGreatZG2
import Derived.Test.YtjpfpojbalepeaaGreatZG3
import Derived.Test.YtjpfpojbalepeaaGreatZG5
import Derived.Test.YtjpfpojbalepeaaGreatZG8
import Derived.Test.YtjpfpojbalepeaaGreatZG9
set_option linter.unusedVariables false
namespace Go.Proofs.YtjpfpojbalepeaaGreat
open Go.RowKit
open Vt (Rt)
structure PSt (w wr : World) (g : Nat) (y m d : Int) : Prop where
 gw : w.heap.size = g
 bel : Below w.heap.size w wr
 day : DayC wr g y m d
 res : Tt.At wr (g + 1) 0 0 0 (.slice none 0 0)
structure RSt (w wr : World) (g g2 : Nat) (y m d N T : Int) (vo : Option Addr) (q vc : Nat) (ps : List Pt.T) : Prop where
 pst : PSt w wr g y m d
 lo : g + 2 ≤ g2
 tot : Tt.At wr g2 N T 0 (.slice vo q vc)
 own : Pt.Own wr (g2 + 1) (.slice vo q vc) ps
 sh : ∀ r ∈ ps,Pt.Short r
section
variable {w wr v : World} {g g2 : Nat} {y m d N T : Int} {vo : Option Addr} {q vc : Nat} {ps : List Pt.T}
theorem PSt.below (h : PSt w wr g y m d) (b : Below wr.heap.size wr v) : PSt w v g y m d := ⟨h.gw,bchain h.bel b,h.day.below b,h.res.below b⟩
end
theorem find_fit {rs : List Rt} (hs : ∀ r ∈ rs,Short r) (c : ByteArray) (y m d : Int) : Fit (Vt.find rs c y m d).1 := by
 have h0 : Fit 0 := ⟨by omega,by omega⟩
 have hl : ∀ (l : List Rt) (acc : Int × Bool),Fit acc.1 → (∀ r ∈ l,Short r) → Fit (Vt.last c (Dt.days y m d) acc l).1 := by
  intro l
  induction l with
  | nil => intro acc h _; exact h
  | cons r l ih =>
   intro acc h hr
   unfold Vt.last
   apply ih
   ·
    split
    · exact (hr r (by simp)).2.2.2.2
    · exact h
   · exact fun x hx => hr x (by simp [hx])
 unfold Vt.find
 split
 · exact hl rs (0,false) h0 hs
 · exact h0
theorem part_short {c : ByteArray} {bp : Int} (hc : c.size ≤ 140737488355328) (hb : Fit bp) {ps : List Pt.T} (hs : ∀ r ∈ ps,Pt.Short r) : Pt.Short (Iv.part c bp ps) := by
 have hn : Pt.Short ⟨c,bp,0,0⟩ := ⟨hc,hb,⟨by show (-9223372036854775808 : Int) ≤ 0; omega,by show (0 : Int) ≤ _; omega⟩,⟨by show (-9223372036854775808 : Int) ≤ 0; omega,by show (0 : Int) ≤ _; omega⟩⟩
 induction ps with
 | nil => exact hn
 | cons a l ih =>
  unfold Iv.part
  split
  · exact ih fun x hx => hs x (by simp [hx])
  ·
   split
   · exact hs a (by simp)
   · exact hn
theorem ins_short {c : ByteArray} {bp : Int} (hc : c.size ≤ 140737488355328) (hb : Fit bp) {ps : List Pt.T} (hs : ∀ r ∈ ps,Pt.Short r) : ∀ r ∈ Iv.ins c bp ps,Pt.Short r := by
 have hn : Pt.Short ⟨c,bp,0,0⟩ := ⟨hc,hb,⟨by show (-9223372036854775808 : Int) ≤ 0; omega,by show (0 : Int) ≤ _; omega⟩,⟨by show (-9223372036854775808 : Int) ≤ 0; omega,by show (0 : Int) ≤ _; omega⟩⟩
 induction ps with
 | nil =>
  intro r hr
  obtain rfl := List.mem_singleton.1 hr
  exact hn
 | cons a l ih =>
  intro r hr
  unfold Iv.ins at hr
  split at hr
  ·
   rcases List.mem_cons.1 hr with rfl | hr
   · exact hs _ (by simp)
   · exact ih (fun x hx => hs x (by simp [hx])) r hr
  ·
   split at hr
   · exact hs r hr
   ·
    rcases List.mem_cons.1 hr with rfl | hr
    · exact hn
    · exact hs r hr
end Go.Proofs.YtjpfpojbalepeaaGreat
namespace Go.Proofs.YtjpfpojbalepeaaGreat
open Go.RowKit
open Vt (Rt)
open Go.Sort (grow)
def WithE (w : World) (g c : Nat) (x : Ln.T) (bp : Int) (ps : List Pt.T) (e : Ending) (w' : World) : Prop :=
 Below g w w' ∧ ((Mn.err (x.count * x.price) = 0 ∧ Iv.enterE x.category bp (x.count * x.price) ps = 0 ∧ ∃ Z,e = .returned (.tuple #[.slice (some ⟨g,0,none⟩) (Iv.enter x.category bp (x.count * x.price) ps).length c,.int .i64 0]) ∧ Pt.Block w' g (Iv.enter x.category bp (x.count * x.price) ps ++ Z) ∧ c = (Iv.enter x.category bp (x.count * x.price) ps ++ Z).length) ∨
  ((Mn.err (x.count * x.price) ≠ 0 ∨ Iv.enterE x.category bp (x.count * x.price) ps ≠ 0) ∧ ∃ v,e = .returned (.tuple #[v,.int .i64 7])))
theorem ins_at' {c : ByteArray} {bp : Int} {ps Z : List Pt.T} {s : Nat} (hs : Iv.spot c ps = s) : ∃ h : s < (Iv.ins c bp ps ++ Z).length,(Iv.ins c bp ps ++ Z)[s] = Iv.part c bp ps := by
 have h1 := Iv.ins_lt (c := c) (bp := bp) ps
 have h2 := Iv.ins_at (c := c) (bp := bp) ps
 rw [hs] at h1 h2
 refine ⟨by rw [List.length_append]; omega,?_⟩
 rw [List.getElem_append_left h1]
 exact Option.some.inj ((List.getElem?_eq_getElem h1).symm.trans h2)
theorem below_put {B g : Nat} {w0 w : World} (h : Below B w0 w) (hg : B ≤ g) (o : Nat) (x : Value) : Below B w0 (w.setCell ⟨g,o,none⟩ x) := h.setCell hg x
theorem with_end {w u : World} {g n c s : Nat} {x : Ln.T} {bp nn : Int} {ps Z : List Pt.T} (hnn : x.count * x.price = nn) (hm : Mn.err nn = 0) (hs : Iv.spot x.category ps = s) (hb : Below g w u) (hB : Pt.Block u g (Iv.ins x.category bp ps ++ Z)) (hc : c = (Iv.ins x.category bp ps ++ Z).length) (hn : n = (Iv.ins x.category bp ps).length) :
  (Mn.err ((Iv.part x.category bp ps).net + nn) = 0 → WithE w g c x bp ps (.returned (.tuple #[.slice (some ⟨g,0,none⟩) n c,.int .i64 0])) (u.setCell ⟨g,s * 4 + 2,none⟩ (.int .i64 ((Iv.part x.category bp ps).net + nn)))) ∧
  (Mn.err ((Iv.part x.category bp ps).net + nn) = 7 → WithE w g c x bp ps (.returned (.tuple #[.slice (some ⟨g,0,none⟩) n c,.int .i64 7])) (u.setCell ⟨g,s * 4 + 2,none⟩ (.int .i64 0))) := by
 subst hnn
 obtain ⟨hlt,hat⟩ := ins_at' (c := x.category) (bp := bp) (Z := Z) hs
 have hil := Iv.ins_lt (c := x.category) (bp := bp) ps
 rw [hs] at hil
 have hlen : (Iv.enter x.category bp (x.count * x.price) ps).length = n := by
  unfold Iv.enter
  rw [List.length_set,hn]
 have hen : (Iv.ins x.category bp ps ++ Z).set s (Iv.more (Iv.part x.category bp ps) (x.count * x.price)) = Iv.enter x.category bp (x.count * x.price) ps ++ Z := by
  unfold Iv.enter
  rw [hs,List.set_append_left _ _ hil]
 refine ⟨fun h => ⟨below_put hb (Nat.le_refl _) _ _,.inl ⟨hm,h,Z,by rw [hlen],?_,by rw [List.length_append,hlen,hc,List.length_append,hn]⟩⟩,fun h => ⟨below_put hb (Nat.le_refl _) _ _,.inr ⟨.inr ?_,_,rfl⟩⟩⟩
 ·
  rw [← hen]
  exact hB.put s 2 hlt (by omega) _ _ (by rw [hat]; rfl)
 ·
  show Mn.err _ ≠ 0
  rw [h]
  omega
set_option maxHeartbeats 4000000 in
theorem inv_with (ps Z : List Pt.T) (z : Pt.T) (x : Ln.T) (bp : Int) (g n c : Nat) (w : World) (hB : Pt.Block w g (ps ++ z :: Z)) (hn : n = ps.length) (hc : c = (ps ++ z :: Z).length) (hc1 : c ≤ 1000) (hx : Ln.Short x) (hb : Fit bp) (hs : ∀ r ∈ ps,Pt.Short r) :
  Calls Tryz.prog 166 #[.slice (some ⟨g,0,none⟩) n c,Ln.val x,.int .i64 bp] w (WithE w g c x bp ps) := by
 obtain ⟨W,hW,hbW,hC⟩ := Ln.boxed1 w x
 have HG := Lib.hid hB.lt
 have HB := Lib.hid (hB.below hbW)
 have HL := Lib.hid (HB.out.ls n c hn (by rw [hc,List.length_append]; omega) (by omega) hs)
 have HBel : Hid (Below g w W) := Lib.hid (hbW.mono (Nat.le_of_lt hB.lt))
 have HC := Lib.hid hC
 have HX := Lib.hid hx
 have HS := Lib.hid hs
 have HN := Lib.hid hn
 have HCc := Lib.hid hc
 have HBp := Lib.hid hb
 have hnc : n + 1 ≤ c := by rw [hc,List.length_append,List.length_cons]; omega
 unfold Ln.C at hC
 obtain ⟨a0,a1,a2,a3⟩ := hC
 have HsW : Hid (W.heap.size = w.heap.size + 1) := Lib.hid (by rw [← hW]; simp)
 obtain ⟨nn,hnn⟩ : ∃ nn,x.count * x.price = nn := ⟨_,rfl⟩
 have HNN := Lib.hid hnn
 clear hB hbW hx hs hn hc hb
 unfold Ln.val
 go_enter Tryz.func166,Tryz.ntmps166
 go_wp2_with fail
 refine (mul_any x.count x.price _ HX.out.2.2.1 HX.out.2.2.2).mono ?_
 rintro e w1 ⟨rfl,hw1⟩
 subst hw1
 unfold both
 rw [hnn]
 rcases Mn.err_two nn with e1 | e1
 ·
  rw [e1,Mn.amt_fit (Iv.err_0 e1)]
  have HE1 := Lib.hid e1
  have HF := Lib.hid (Iv.err_0 e1)
  clear e1 hnn
  go_wp2_with fail
  refine (inv_place ps x.category _ n c _ HL.out).mono ?_
  rintro e w1 ⟨rfl,hw1⟩
  subst hw1
  obtain ⟨s,hsp⟩ : ∃ s,Iv.spot x.category ps = s := ⟨_,rfl⟩
  have hsn : s ≤ n := by rw [HN.out,← hsp]; exact Iv.spot_le _ _
  have HSp := Lib.hid hsp
  rw [hsp]
  have l0 := cell_regrown a0
  have l1 := cell_regrown a1
  have l2 := cell_regrown a2
  have l3 := cell_regrown a3
  have HPS : Hid (Pt.Short (Iv.part x.category bp ps)) := Lib.hid (part_short HX.out.2.1 HBp.out HS.out)
  clear hW hsp
  by_cases hlt : s < n
  ·
   have hsl : s < ps.length := HN.out ▸ hlt
   have hrow := HB.out.row s (by rw [List.length_append]; omega)
   rw [List.getElem_append_left hsl] at hrow
   obtain ⟨q,hq⟩ : ∃ q,ps[s] = q := ⟨_,rfl⟩
   rw [hq] at hrow
   have HQ := Lib.hid hq
   obtain ⟨g0,g1,g2,g3⟩ := hrow
   have k0 := cell_regrown g0
   have k1 := cell_regrown g1
   have k2 := cell_regrown g2
   have k3 := cell_regrown g3
   have hne1 : ((s : Int) == (n : Int)) = false := by simp; omega
   clear hq
   by_cases hcat : q.cat = x.category
   ·
    have HH : Hid (Iv.has x.category ps = true) := Lib.hid (by rw [Iv.has_spot,HSp.out,List.getElem?_eq_getElem hsl,HQ.out]; exact decide_eq_true hcat)
    have hqe : (q.cat.toList == x.category.toList) = true := beq_iff_eq.2 (by rw [hcat])
    have HI : Hid (Iv.ins x.category bp ps = ps) := Lib.hid (Iv.ins_has HH.out)
    clear hcat
    go_wp2
    refine wp_region_quiet_below (by kernel_rfl) (by kernel_rfl) ?_
    repeat (first | go_big_quiet_step (fail) | quiet_step (fail))
    refine wpQuiet_nil ?_
    intro _ hw'
    obtain ⟨⟨dq,osq⟩,hw''⟩ := hw'
    subst hw''
    have HBx := Lib.hid (HBel.out.trans ((below_regrown w1 dq osq).mono (by have := HG.out; have := HsW.out; omega)))
    have HBk := Lib.hid (HB.out.below (below_regrown w1 dq osq))
    clear l0 l1 l2 l3 a0 a1 a2 a3 k0 k1 k2 k3 g0 g1 g2 g3 hqe
    generalize grow (redrawn w1 dq) osq = u at *
    obtain ⟨hlt2,hat2⟩ := ins_at' (c := x.category) (bp := bp) (Z := z :: Z) HSp.out
    have HEn := Lib.hid (with_end (n := n) (c := c) HNN.out HE1.out HSp.out HBx.out (by rw [HI.out]; exact HBk.out) (by rw [HI.out]; exact HCc.out) (by rw [HI.out]; exact HN.out))
    have hrow := HBk.out.row s (by rw [List.length_append]; omega)
    have hpp : (ps ++ z :: Z)[s]'(by rw [List.length_append]; omega) = Iv.part x.category bp ps := by
     have h2 := hat2
     simp only [HI.out] at h2
     exact h2
    rw [hpp] at hrow
    have hfz := HBk.out.frozen (s * 4 + 2)
    obtain ⟨p,hp⟩ : ∃ p,Iv.part x.category bp ps = p := ⟨_,rfl⟩
    rw [hp] at hrow HEn HPS
    obtain ⟨g0,g1,g2,g3⟩ := hrow
    clear hp hpp hat2 hlt2
    go_wp2_with fail
    refine (add_any p.net nn _ HPS.out.2.2.1 HF.out).mono ?_
    rintro e w2 ⟨rfl,hw2⟩
    subst hw2
    unfold both
    rcases Mn.err_two (p.net + nn) with e2 | e2
    ·
     rw [e2,Mn.amt_fit (Iv.err_0 e2)]
     have HR := Lib.hid (HEn.out.1 e2)
     clear e2
     go_wp2_with fail
     go_ret2
     exact HR.out
    ·
     rw [e2,Mn.amt_not (err_7 e2)]
     have HR := Lib.hid (HEn.out.2 e2)
     clear e2
     go_wp2_with fail
     go_ret2
     exact HR.out
   ·
    have HH : Hid (Iv.has x.category ps = false) := Lib.hid (by rw [Iv.has_spot,HSp.out,List.getElem?_eq_getElem hsl,HQ.out]; exact decide_eq_false hcat)
    have hqe : (q.cat.toList == x.category.toList) = false := beq_eq_false_iff_ne.2 fun e => hcat (Vt.cat_ext e)
    clear hcat
    have HI : Hid (Iv.ins x.category bp ps = ps.take s ++ ⟨x.category,bp,0,0⟩ :: ps.drop s) := Lib.hid (by rw [Iv.ins_new HH.out,HSp.out])
    go_wp2
    refine wp_region_quiet_below (by kernel_rfl) (by kernel_rfl) ?_
    repeat (first | go_big_quiet_step (fail) | quiet_step (fail))
    refine wpQuiet_nil ?_
    intro _ hw'
    obtain ⟨⟨dq,osq⟩,hw''⟩ := hw'
    subst hw''
    have HBx := Lib.hid (HBel.out.trans ((below_regrown w1 dq osq).mono (by have := HG.out; have := HsW.out; omega)))
    have HBk := Lib.hid (HB.out.below (below_regrown w1 dq osq))
    have hC := HC.out.below (below_regrown w1 dq osq)
    unfold Ln.C at hC
    clear l0 l1 l2 l3 a0 a1 a2 a3 k0 k1 k2 k3 g0 g1 g2 g3 hqe
    obtain ⟨a0,a1,a2,a3⟩ := hC
    generalize grow (redrawn w1 dq) osq = u at *
    go_wp2_with fail
    have hbu : Below u.heap.size u (u.alloc (Pt.block ⟨x.category,bp,0,0⟩)) := (Below.refl _ _).alloc (Nat.le_refl _) _
    refine (Pt.insert_mid _ g c u.heap.size n s ps Z z ⟨x.category,bp,0,0⟩ (HBk.out.below hbu) HN.out HCc.out hc1 (heap_alloc_new u _) (Nat.ne_of_gt HBk.out.lt) hlt).mono ?_
    rintro e w2 ⟨rfl,hB2,hb2⟩
    have HBy := Lib.hid (hb2 g w (HBx.out.trans (hbu.mono (Nat.le_of_lt HBk.out.lt))) (Nat.le_refl _))
    have HBl : Hid (Pt.Block w2 g (Iv.ins x.category bp ps ++ Z)) := Lib.hid (by rw [HI.out]; exact hB2)
    clear hB2 hb2 hbu a0 a1 a2 a3
    obtain ⟨hlt2,hat2⟩ := ins_at' (c := x.category) (bp := bp) (Z := Z) HSp.out
    have hlen : (Iv.ins x.category bp ps).length = n + 1 := by
     rw [HI.out,List.length_append,List.length_cons,List.length_take,List.length_drop,← HN.out]
     omega
    have HEn := Lib.hid (with_end (n := n + 1) (c := c) HNN.out HE1.out HSp.out HBy.out HBl.out (by have := HCc.out; rw [List.length_append,List.length_cons,← HN.out] at this; rw [List.length_append,hlen]; omega) hlen.symm)
    have hrow := HBl.out.row s hlt2
    rw [hat2] at hrow
    have hfz := HBl.out.frozen (s * 4 + 2)
    obtain ⟨p,hp⟩ : ∃ p,Iv.part x.category bp ps = p := ⟨_,rfl⟩
    rw [hp] at hrow HEn HPS
    obtain ⟨g0,g1,g2,g3⟩ := hrow
    clear hp hat2 hlt2 hlen
    go_wp2_with fail
    refine (add_any p.net nn _ HPS.out.2.2.1 HF.out).mono ?_
    rintro e w3 ⟨rfl,hw3⟩
    subst hw3
    unfold both
    rcases Mn.err_two (p.net + nn) with e2 | e2
    ·
     rw [e2,Mn.amt_fit (Iv.err_0 e2)]
     have HR := Lib.hid (HEn.out.1 e2)
     clear e2
     go_wp2_with fail
     go_ret2
     exact HR.out
    ·
     rw [e2,Mn.amt_not (err_7 e2)]
     have HR := Lib.hid (HEn.out.2 e2)
     clear e2
     go_wp2_with fail
     go_ret2
     exact HR.out
  ·
   obtain rfl : n = s := by omega
   have HH : Hid (Iv.has x.category ps = false) := Lib.hid (by rw [Iv.has_spot,HSp.out,List.getElem?_eq_none (by rw [← HN.out]; omega)])
   have HI : Hid (Iv.ins x.category bp ps = ps.take n ++ ⟨x.category,bp,0,0⟩ :: ps.drop n) := Lib.hid (by rw [Iv.ins_new HH.out,HSp.out])
   go_wp2
   refine wp_region_quiet_below (by kernel_rfl) (by kernel_rfl) ?_
   repeat (first | go_big_quiet_step (fail) | quiet_step (fail))
   refine wpQuiet_nil ?_
   intro _ hw'
   obtain ⟨⟨dq,osq⟩,hw''⟩ := hw'
   subst hw''
   have HBx := Lib.hid (HBel.out.trans ((below_regrown w1 dq osq).mono (by have := HG.out; have := HsW.out; omega)))
   have HBk := Lib.hid (HB.out.below (below_regrown w1 dq osq))
   have hC := HC.out.below (below_regrown w1 dq osq)
   unfold Ln.C at hC
   clear l0 l1 l2 l3 a0 a1 a2 a3
   obtain ⟨a0,a1,a2,a3⟩ := hC
   generalize grow (redrawn w1 dq) osq = u at *
   go_wp2_with fail
   have hbu : Below u.heap.size u (u.alloc (Pt.block ⟨x.category,bp,0,0⟩)) := (Below.refl _ _).alloc (Nat.le_refl _) _
   refine (Pt.insert_end _ g c u.heap.size n ps Z z ⟨x.category,bp,0,0⟩ (HBk.out.below hbu) HN.out HCc.out hc1 (heap_alloc_new u _)).mono ?_
   rintro e w2 ⟨rfl,hB2,hb2⟩
   have HBy := Lib.hid (hb2 g w (HBx.out.trans (hbu.mono (Nat.le_of_lt HBk.out.lt))) (Nat.le_refl _))
   have HBl : Hid (Pt.Block w2 g (Iv.ins x.category bp ps ++ Z)) := Lib.hid (by rw [HI.out,HN.out,List.take_length,List.drop_length]; exact hB2)
   clear hB2 hb2 hbu a0 a1 a2 a3
   obtain ⟨hlt2,hat2⟩ := ins_at' (c := x.category) (bp := bp) (Z := Z) HSp.out
   have hlen : (Iv.ins x.category bp ps).length = n + 1 := by
    rw [HI.out,List.length_append,List.length_cons,List.length_take,List.length_drop,← HN.out]
    omega
   have HEn := Lib.hid (with_end (n := n + 1) (c := c) HNN.out HE1.out HSp.out HBy.out HBl.out (by have := HCc.out; rw [List.length_append,List.length_cons,← HN.out] at this; rw [List.length_append,hlen]; omega) hlen.symm)
   have hrow := HBl.out.row n hlt2
   rw [hat2] at hrow
   have hfz := HBl.out.frozen (n * 4 + 2)
   obtain ⟨p,hp⟩ : ∃ p,Iv.part x.category bp ps = p := ⟨_,rfl⟩
   rw [hp] at hrow HEn HPS
   obtain ⟨g0,g1,g2,g3⟩ := hrow
   clear hp hat2 hlt2 hlen
   go_wp2_with fail
   refine (add_any p.net nn _ HPS.out.2.2.1 HF.out).mono ?_
   rintro e w3 ⟨rfl,hw3⟩
   subst hw3
   unfold both
   rcases Mn.err_two (p.net + nn) with e2 | e2
   ·
    rw [e2,Mn.amt_fit (Iv.err_0 e2)]
    have HR := Lib.hid (HEn.out.1 e2)
    clear e2
    go_wp2_with fail
    go_ret2
    exact HR.out
   ·
    rw [e2,Mn.amt_not (err_7 e2)]
    have HR := Lib.hid (HEn.out.2 e2)
    clear e2
    go_wp2_with fail
    go_ret2
    exact HR.out
 ·
  have HR : Hid (WithE w g c x bp ps (.returned (.tuple #[.slice none 0 0,.int .i64 7])) w1) := Lib.hid ⟨HBel.out,.inr ⟨.inl (by rw [HNN.out,e1]; omega),_,rfl⟩⟩
  rw [e1]
  clear e1 hnn
  go_wp2_with fail
  go_ret2
  exact HR.out
end Go.Proofs.YtjpfpojbalepeaaGreat
set_option maxRecDepth 100000
namespace Go.Proofs.YtjpfpojbalepeaaGreat
open Go.RowKit
open Vt (Rt)
open Go.Sort (grow)
structure WSt (w wr : World) (g h n c : Nat) (N T : Int) (ps Z : List Pt.T) : Prop where
 hs : w.heap.size = h
 gh : g < h
 bel : Below g w wr
 res : Tt.At wr h 0 0 0 (.slice none 0 0)
 tot : Tt.At wr (h + 1) N T 0 (.slice (some ⟨g,0,none⟩) n c)
 blk : Pt.Block wr g (ps ++ Z)
 sh : ∀ r ∈ ps,Pt.Short r
section
variable {w wr v : World} {g h n c : Nat} {N T : Int} {ps Z : List Pt.T}
theorem WSt.below (H : WSt w wr g h n c N T ps Z) (b : Below wr.heap.size wr v) : WSt w v g h n c N T ps Z :=
 ⟨H.hs,H.gh,H.bel.trans (b.mono (Nat.le_of_lt H.blk.lt)),H.res.below b,H.tot.below b,H.blk.below b,H.sh⟩
theorem WSt.row (H : WSt w wr g h n c N T ps Z) (k : Nat) (hk : k < ps.length) : Pt.At wr g (k * 4) ps[k] ∧ (∀ o,wr.frozen? ⟨g,o,none⟩ = false) := by
 have hr := H.blk.row k (by rw [List.length_append]; omega)
 rw [List.getElem_append_left hk] at hr
 exact ⟨hr,fun o => H.blk.frozen o⟩
theorem WSt.put (H : WSt w wr g h n c N T ps Z) (k p : Nat) (hk : k < ps.length) (hp : p < 4) (x : Value) (r : Pt.T) (hr : Pt.rv r = (Pt.rv ps[k]).set p x) (hs : Pt.Short r) : WSt w (wr.setCell ⟨g,k * 4 + p,none⟩ x) g h n c N T (ps.set k r) Z := by
 have e := H.gh
 refine ⟨H.hs,e,below_put H.bel (Nat.le_refl _) _ _,H.res.far (by omega) _ _,H.tot.far (by omega) _ _,?_,?_⟩
 ·
  rw [← List.set_append_left _ _ hk]
  exact H.blk.put k p (by rw [List.length_append]; omega) hp x r (by rw [List.getElem_append_left hk]; exact hr)
 ·
  intro a ha
  obtain ⟨j,hj,e'⟩ := List.getElem_of_mem ha
  rw [List.getElem_set] at e'
  split at e'
  · exact e' ▸ hs
  · exact H.sh a (e' ▸ List.getElem_mem _)
theorem WSt.setN (H : WSt w wr g h n c N T ps Z) (x : Int) : WSt w (wr.setCell ⟨h + 1,0,none⟩ (.int .i64 x)) g h n c x T ps Z := by
 have e := H.gh
 exact ⟨H.hs,e,below_put H.bel (by omega) _ _,H.res.far (by omega) _ _,H.tot.set0 _,H.blk.far (by omega) _ _,H.sh⟩
theorem WSt.setT (H : WSt w wr g h n c N T ps Z) (x : Int) : WSt w (wr.setCell ⟨h + 1,1,none⟩ (.int .i64 x)) g h n c N x ps Z := by
 have e := H.gh
 exact ⟨H.hs,e,below_put H.bel (by omega) _ _,H.res.far (by omega) _ _,H.tot.set1 _,H.blk.far (by omega) _ _,H.sh⟩
end
def WAns (w : World) (g : Nat) (E : Int) (T : Iv.Tot) (e : Ending) (w' : World) : Prop := ∃ v,e = .returned (.tuple #[Tt.val T.net T.tax T.gross v,.int .i64 E]) ∧ Pt.Own w' g v T.parts ∧ Below g w w'
def Iv.sumW (ps : List Pt.T) : Iv.Tot := if Iv.sumE ps = 0 then Iv.sumT ps else Iv.Tot.zero
theorem whole_err {ps : List Pt.T} {E : Int} (k : Iv.upE ps 0 0 = E) (hE : E ≠ 0) : Iv.sumE ps = E ∧ Iv.sumW ps = Iv.Tot.zero := by
 have e : Iv.sumE ps = E := by
  unfold Iv.sumE
  rw [k,if_pos hE]
 unfold Iv.sumW
 rw [e,if_neg hE]
 exact ⟨rfl,rfl⟩
set_option maxHeartbeats 8000000 in
theorem inv_whole (ps Z : List Pt.T) (g n c : Nat) (w : World) (hB : Pt.Block w g (ps ++ Z)) (hn : n = ps.length) (hc : c = (ps ++ Z).length) (hc1 : c ≤ 1000) (hs : ∀ r ∈ ps,Pt.Short r) :
  Calls Tryz.prog 167 #[.slice (some ⟨g,0,none⟩) n c] w (WAns w g (Iv.sumE ps) (Iv.sumW ps)) := by
 obtain ⟨U,hU⟩ : ∃ U,Tt.box (Tt.box w 0 0 0 (.slice none 0 0)) 0 0 0 (.slice (some ⟨g,0,none⟩) n c) = U := ⟨_,rfl⟩
 have HW : Hid (WSt w U g w.heap.size n c 0 0 ps Z) := by
  have b1 := Tt.below_own w 0 0 0 (.slice none 0 0)
  have b2 := Tt.below_own (Tt.box w 0 0 0 (.slice none 0 0)) 0 0 0 (.slice (some ⟨g,0,none⟩) n c)
  have hA := Tt.at_box (Tt.box w 0 0 0 (.slice none 0 0)) 0 0 0 (.slice (some ⟨g,0,none⟩) n c)
  rw [Tt.box_size] at hA
  have hl := hB.lt
  rw [hU] at b2 hA
  exact ⟨rfl,hl,(bchain b1 b2).mono (Nat.le_of_lt hl),(Tt.at_box w 0 0 0 (.slice none 0 0)).below b2,hA,hB.below (bchain b1 b2),hs⟩
 have HN := Lib.hid hn
 have HCc := Lib.hid hc
 have HUs : Hid (U = (w.alloc (.cells #[.int .i64 0,.int .i64 0,.int .i64 0,.slice none 0 0] 64)).alloc (.cells #[.int .i64 0,.int .i64 0,.int .i64 0,.slice (some ⟨g,0,none⟩) n c] 64)) := Lib.hid hU.symm
 have hnc : n ≤ c := by rw [hc,hn,List.length_append]; omega
 obtain ⟨h,hh⟩ : ∃ h,w.heap.size = h := ⟨_,rfl⟩
 rw [hh] at HW
 clear hB hn hc hs hU
 go_enter Tryz.func167,Tryz.ntmps167
 go_wp2_with fail
 rw [← HUs.out]
 clear HUs
 try rw [hh]
 clear hh
 go_loopw [5,6,7,13] (fun _ _ _ i wr => ∃ (j : Nat) (N T : Int),j ≤ n ∧ i = .int .i64 j ∧ Hid (WSt w wr g h n c N T (Iv.mix ps j) Z) ∧ Hid (Iv.upE (ps.drop j) N T = Iv.upE ps 0 0 ∧ N + Iv.nets (ps.drop j) = Iv.nets ps ∧ T + Iv.taxes (ps.drop j) = Iv.taxes ps ∧ Fit N ∧ Fit T)) (fun _ _ _ i _ => n - (intOf i).toNat)
 case atStart => exact ⟨0,0,0,by omega,rfl,HW,Lib.hid ⟨rfl,Int.zero_add _,Int.zero_add _,⟨by omega,by omega⟩,⟨by omega,by omega⟩⟩⟩
 case round =>
  clear HW
  rename World => wy
  obtain ⟨j,N,T,hj,rfl,H,HU⟩ := hrel
  by_cases hjq : j < n
  ·
   have hjp : j < ps.length := HN.out ▸ hjq
   have hjm : j < (Iv.mix ps j).length := by rw [Iv.mix_len]; exact hjp
   obtain ⟨hAt,hfz⟩ := H.out.row j hjm
   have hpm : (Iv.mix ps j)[j] = ps[j] := Option.some.inj ((List.getElem?_eq_getElem hjm).symm.trans (Iv.mix_at ps j hjp))
   have HMs := Lib.hid (Iv.mix_set ps j hjp)
   have HU1 := Lib.hid (Iv.upE_at ps N T j hjp)
   have HU2 := Lib.hid (Iv.nets_at ps j hjp)
   have HU3 := Lib.hid (Iv.taxes_at ps j hjp)
   have HSp : Hid (Pt.Short ps[j]) := Lib.hid (hpm ▸ H.out.sh _ (List.getElem_mem hjm))
   rw [hpm] at hAt
   obtain ⟨p,hp⟩ : ∃ p,ps[j] = p := ⟨_,rfl⟩
   rw [hp] at hAt HMs HU1 HU2 HU3 HSp hpm
   have HPm := Lib.hid hpm
   obtain ⟨E,hE⟩ : ∃ E,Sh.taxE p.net p.bp = E := ⟨_,rfl⟩
   obtain ⟨X,hX⟩ : ∃ X,Sh.taxV p.net p.bp = X := ⟨_,rfl⟩
   have c1 : ∀ u,Below wy.heap.size wy u → Calls Tryz.prog 116 #[.int .i64 p.net,.int .i64 p.bp] u fun e w'' => e = .returned (.tuple #[.int .i64 X,.int .i64 E]) ∧ Below wy.heap.size wy w'' := fun u hu => (tax_any p.net p.bp wy u hu HSp.out.2.2.1 HSp.out.2.1).mono fun e w'' ⟨h1,h2⟩ => ⟨by rw [h1,hE,hX]; rfl,h2⟩
   have HC1 := Lib.hid c1
   have HF3 : Hid (∀ u,Below wy.heap.size wy u → u.cell? ⟨g,j * 4 + 3,none⟩ = some (.int .i64 p.tax) ∧ u.frozen? ⟨g,j * 4 + 3,none⟩ = false) := Lib.hid fun u hu => by
    have h2 := (H.out.below hu).row j hjm
    rw [hpm] at h2
    exact ⟨h2.1.4,h2.2 _⟩
   rw [hE,hX] at HU1
   rw [hX] at HU3
   have HFX : Hid (Fit X) := Lib.hid (hX ▸ tax_fit p.net p.bp)
   have HTx : Hid (Iv.taxed p = ⟨p.cat,p.bp,p.net,X⟩) := Lib.hid (by unfold Iv.taxed; rw [hX])
   have HPut : Hid (∀ u,Below wy.heap.size wy u → WSt w (u.setCell ⟨g,j * 4 + 3,none⟩ (.int .i64 X)) g h n c N T (Iv.mix ps (j + 1)) Z) := Lib.hid fun u hu => by
    rw [← HMs.out,HTx.out]
    exact (H.out.below hu).put j 3 hjm (by omega) _ _ (by rw [HPm.out]; rfl) ⟨HSp.out.1,HSp.out.2.1,HSp.out.2.2.1,HFX.out⟩
   obtain ⟨r0,r1,r2,r3⟩ := hAt
   have hf3 := hfz (j * 4 + 3)
   clear hE hX hp hpm c1 hfz
   go_wp2_with fail
   go_cut [7] (fun e wx => e = .int .i64 E ∧ Hid (WSt w wx g h n c N T (Iv.mix ps (j + 1)) Z))
   case first =>
    go_region_with (go_at_call 116; refine (HC1.out _ (by first | exact Below.refl _ _ | exact (Below.refl _ _).drew)).mono ?_; rintro e u ⟨rfl,hu⟩; have q3 := (HF3.out u hu).1; have q4 := (HF3.out u hu).2; have HBu := Lib.hid hu; clear hu)
    all_goals (try go_wp2_with fail)
    all_goals go_meet
    all_goals exact ⟨rfl,Lib.hid (by first | exact HPut.out _ HBu.out | exact (HPut.out _ HBu.out).below (Below.refl _ _).drew)⟩
   case rest =>
    obtain ⟨rfl,H1⟩ := hcut
    clear r0 r1 r2 r3 hf3 HPut HC1 HF3 H
    by_cases hE0 : E = 0
    ·
     subst hE0
     rw [if_neg (by simp)] at HU1
     have hjm2 : j < (Iv.mix ps (j + 1)).length := by rw [Iv.mix_len]; exact hjp
     have hpm2 : (Iv.mix ps (j + 1))[j] = Iv.taxed p := by
      have h1 : (Iv.mix ps (j + 1))[j]? = some (Iv.taxed p) := by rw [← HMs.out,List.getElem?_set_self hjm]
      exact Option.some.inj ((List.getElem?_eq_getElem hjm2).symm.trans h1)
     obtain ⟨hAt2,hfz2⟩ := H1.out.row j hjm2
     rw [hpm2,HTx.out] at hAt2
     obtain ⟨r0,r1,r2,r3⟩ := hAt2
     obtain ⟨t0,t1,t2,t3⟩ := H1.out.tot.cells
     have hf0 := H1.out.tot.frozen 0
     have HSN : Hid (∀ x,WSt w (wc.setCell ⟨h + 1,0,none⟩ (.int .i64 x)) g h n c x T (Iv.mix ps (j + 1)) Z) := Lib.hid fun x => H1.out.setN x
     clear hfz2 r0 r1 r3 t1 t2 t3
     go_wp2_with fail
     go_cut [7] (fun e wv => e = .int .i64 (Mn.err (N + p.net)) ∧ Hid (WSt w wv g h n c (Mn.amt (N + p.net)) T (Iv.mix ps (j + 1)) Z))
     case first =>
      go_region_with (go_at_call 125; refine (add_any N p.net _ HU.out.2.2.2.1 HSp.out.2.2.1).mono ?_; rintro e u ⟨rfl,hu⟩; subst hu; unfold both)
      all_goals (try go_wp2_with fail)
      all_goals go_meet
      all_goals exact ⟨rfl,Lib.hid (by first | exact HSN.out _ | exact (HSN.out _).below (Below.refl _ _).drew)⟩
     case rest =>
      obtain ⟨rfl,H2⟩ := hcut
      clear r2 t0 hf0 HSN H1
      rcases Mn.err_two (N + p.net) with e1 | e1
      ·
       rw [e1]
       rw [Mn.amt_fit (Iv.err_0 e1)] at H2
       rw [e1,if_neg (by simp)] at HU1
       have HFN := Lib.hid (Iv.err_0 e1)
       clear e1
       obtain ⟨hAt3,_⟩ := H2.out.row j hjm2
       rw [hpm2,HTx.out] at hAt3
       obtain ⟨r0,r1,r2,r3⟩ := hAt3
       obtain ⟨t0,t1,t2,t3⟩ := H2.out.tot.cells
       have hf1 := H2.out.tot.frozen 1
       rename World => wd
       have HST : Hid (∀ x,WSt w (wd.setCell ⟨h + 1,1,none⟩ (.int .i64 x)) g h n c (N + p.net) x (Iv.mix ps (j + 1)) Z) := Lib.hid fun x => H2.out.setT x
       clear r0 r1 r2 t0 t2 t3
       go_wp2_with fail
       go_cut [7] (fun e wv => e = .int .i64 (Mn.err (T + X)) ∧ Hid (WSt w wv g h n c (N + p.net) (Mn.amt (T + X)) (Iv.mix ps (j + 1)) Z))
       case first =>
        go_region_with (go_at_call 125; refine (add_any T X _ HU.out.2.2.2.2 HFX.out).mono ?_; rintro e u ⟨rfl,hu⟩; subst hu; unfold both)
        all_goals (try go_wp2_with fail)
        all_goals go_meet
        all_goals exact ⟨rfl,Lib.hid (by first | exact HST.out _ | exact (HST.out _).below (Below.refl _ _).drew)⟩
       case rest =>
        obtain ⟨rfl,H3⟩ := hcut
        clear r3 t1 hf1 HST H2
        rcases Mn.err_two (T + X) with e2 | e2
        ·
         rw [Mn.amt_fit (Iv.err_0 e2)] at H3
         rw [e2]
         rw [e2,if_neg (by simp)] at HU1
         have HFT := Lib.hid (Iv.err_0 e2)
         clear e2
         go_wp2_with fail
         go_roundw
         case rel => exact ⟨j + 1,N + p.net,T + X,by omega,by go_num,H3,Lib.hid ⟨by rw [← HU1.out]; exact HU.out.1,by have h1 := HU.out.2.1; have h2 := HU2.out; omega,by have h1 := HU.out.2.2.1; have h2 := HU3.out; omega,HFN.out,HFT.out⟩⟩
         case measure => simp [intOf]; omega
        ·
         have HP := Lib.hid (whole_err (ps := ps) (E := 7) (by rw [← HU.out.1,HU1.out,e2]; rfl) (by omega))
         rw [e2]
         clear e2
         obtain ⟨z0,z1,z2,z3⟩ := H3.out.res.cells
         have f0 := H3.out.res.frozen 0
         have f1 := H3.out.res.frozen 1
         have f2 := H3.out.res.frozen 2
         have f3 := H3.out.res.frozen 3
         have HBe := Lib.hid (And.intro H3.out.bel (And.intro H3.out.hs H3.out.gh))
         go_wp2_with fail
         exact bodyPost_ret (v := .tuple #[Tt.val 0 0 0 (.slice none 0 0),.int .i64 7]) (by simp [results,Tt.val,Tryz.results167,go_sem,z0,z1,z2,z3]) rfl ⟨_,by rw [HP.out.1,HP.out.2]; rfl,by rw [HP.out.2]; exact Pt.own_nil _ _,below_put (below_put (below_put (below_put HBe.out.1 (by have := HBe.out.2; omega) _ _) (by have := HBe.out.2; omega) _ _) (by have := HBe.out.2; omega) _ _) (by have := HBe.out.2; omega) _ _⟩
      ·
       have HP := Lib.hid (whole_err (ps := ps) (E := 7) (by rw [← HU.out.1,HU1.out,e1]; rfl) (by omega))
       rw [e1]
       clear e1
       obtain ⟨z0,z1,z2,z3⟩ := H2.out.res.cells
       have f0 := H2.out.res.frozen 0
       have f1 := H2.out.res.frozen 1
       have f2 := H2.out.res.frozen 2
       have f3 := H2.out.res.frozen 3
       have HBe := Lib.hid (And.intro H2.out.bel (And.intro H2.out.hs H2.out.gh))
       go_wp2_with fail
       exact bodyPost_ret (v := .tuple #[Tt.val 0 0 0 (.slice none 0 0),.int .i64 7]) (by simp [results,Tt.val,Tryz.results167,go_sem,z0,z1,z2,z3]) rfl ⟨_,by rw [HP.out.1,HP.out.2]; rfl,by rw [HP.out.2]; exact Pt.own_nil _ _,below_put (below_put (below_put (below_put HBe.out.1 (by have := HBe.out.2; omega) _ _) (by have := HBe.out.2; omega) _ _) (by have := HBe.out.2; omega) _ _) (by have := HBe.out.2; omega) _ _⟩
    ·
     have HP := Lib.hid (whole_err (ps := ps) (E := E) (by rw [← HU.out.1,HU1.out,if_pos hE0]) hE0)
     have hne : (E != 0) = true := bne_iff_ne.2 hE0
     clear hE0
     obtain ⟨z0,z1,z2,z3⟩ := H1.out.res.cells
     have f0 := H1.out.res.frozen 0
     have f1 := H1.out.res.frozen 1
     have f2 := H1.out.res.frozen 2
     have f3 := H1.out.res.frozen 3
     have HBe := Lib.hid (And.intro H1.out.bel (And.intro H1.out.hs H1.out.gh))
     go_wp2_with fail
     exact bodyPost_ret (v := .tuple #[Tt.val 0 0 0 (.slice none 0 0),.int .i64 E]) (by simp [results,Tt.val,Tryz.results167,go_sem,z0,z1,z2,z3]) rfl ⟨_,by rw [HP.out.1,HP.out.2]; rfl,by rw [HP.out.2]; exact Pt.own_nil _ _,below_put (below_put (below_put (below_put HBe.out.1 (by have := HBe.out.2; omega) _ _) (by have := HBe.out.2; omega) _ _) (by have := HBe.out.2; omega) _ _) (by have := HBe.out.2; omega) _ _⟩
  ·
   obtain rfl : j = n := by omega
   have HD : Hid (ps.drop j = []) := Lib.hid (List.drop_eq_nil_of_le (Nat.le_of_eq HN.out.symm))
   have HU0 : Hid (Iv.upE ps 0 0 = 0 ∧ N = Iv.nets ps ∧ T = Iv.taxes ps) := Lib.hid (by
    have h := HU.out
    rw [HD.out] at h
    have h1 : N + 0 = Iv.nets ps := h.2.1
    have h2 : T + 0 = Iv.taxes ps := h.2.2.1
    exact ⟨h.1.symm,by omega,by omega⟩)
   have HMx : Hid (Iv.mix ps j = ps.map Iv.taxed) := Lib.hid (by rw [HN.out]; exact Iv.mix_all ps)
   rw [HMx.out] at H
   obtain ⟨t0,t1,t2,t3⟩ := H.out.tot.cells
   have hf2 := H.out.tot.frozen 2
   go_wp2_with fail
   refine (add_any N T _ HU.out.2.2.2.1 HU.out.2.2.2.2).mono ?_
   rintro e wu ⟨rfl,hwu⟩
   subst hwu
   unfold both
   rcases Mn.err_two (N + T) with e1 | e1
   ·
    rw [e1,Mn.amt_fit (Iv.err_0 e1)]
    have HP : Hid (Iv.sumE ps = 0 ∧ Iv.sumW ps = Iv.sumT ps) := Lib.hid (by
     have h0 : Iv.sumE ps = 0 := by
      unfold Iv.sumE
      rw [if_neg (by rw [HU0.out.1]; simp),← HU0.out.2.1,← HU0.out.2.2]
      exact e1
     exact ⟨h0,if_pos h0⟩)
    clear e1
    obtain ⟨z0,z1,z2,z3⟩ := H.out.res.cells
    have f0 := H.out.res.frozen 0
    have f1 := H.out.res.frozen 1
    have f2 := H.out.res.frozen 2
    have f3 := H.out.res.frozen 3
    have HBe := Lib.hid (And.intro H.out.bel (And.intro H.out.hs H.out.gh))
    go_wp2_with fail
    refine bodyPost_ret (v := .tuple #[Tt.val N T (N + T) (.slice (some ⟨g,0,none⟩) j c),.int .i64 0]) (by simp [results,Tt.val,Tryz.results167,go_sem,z0,z1,z2,z3]) rfl ⟨.slice (some ⟨g,0,none⟩) j c,?_,?_,?_⟩
    ·
     rw [HP.out.1,HP.out.2]
     unfold Iv.sumT
     rw [← HU0.out.2.1,← HU0.out.2.2]
    ·
     rw [HP.out.2]
     have hgh := HBe.out.2.2
     have hb : Pt.Block _ g (ps.map Iv.taxed ++ Z) := (((((H.out.blk.far (b := h + 1) (by omega) 2 (.int .i64 (N + T))).far (b := h) (by omega) 0 (.int .i64 N)).far (b := h) (by omega) 1 (.int .i64 T)).far (b := h) (by omega) 2 (.int .i64 (N + T))).far (b := h) (by omega) 3 (.slice (some ⟨g,0,none⟩) j c))
     have ho : Pt.Own _ g (.slice (some ⟨g,0,none⟩) j c) (ps.map Iv.taxed) := Pt.own_front hb (Nat.le_refl _) (by rw [List.length_map]; exact HN.out) (by rw [List.length_append,List.length_map,← List.length_append]; exact HCc.out) hc1
     exact ho
    · exact below_put (below_put (below_put (below_put (below_put HBe.out.1 (by have := HBe.out.2; omega) _ _) (by have := HBe.out.2; omega) _ _) (by have := HBe.out.2; omega) _ _) (by have := HBe.out.2; omega) _ _) (by have := HBe.out.2; omega) _ _
   ·
    have HP : Hid (Iv.sumE ps = 7 ∧ Iv.sumW ps = Iv.Tot.zero) := Lib.hid (by
     have h0 : Iv.sumE ps = 7 := by
      unfold Iv.sumE
      rw [if_neg (by rw [HU0.out.1]; simp),← HU0.out.2.1,← HU0.out.2.2]
      exact e1
     unfold Iv.sumW
     rw [h0]
     exact ⟨rfl,rfl⟩)
    rw [e1]
    clear e1
    obtain ⟨z0,z1,z2,z3⟩ := H.out.res.cells
    have f0 := H.out.res.frozen 0
    have f1 := H.out.res.frozen 1
    have f2 := H.out.res.frozen 2
    have f3 := H.out.res.frozen 3
    have HBe := Lib.hid (And.intro H.out.bel (And.intro H.out.hs H.out.gh))
    go_wp2_with fail
    exact bodyPost_ret (v := .tuple #[Tt.val 0 0 0 (.slice none 0 0),.int .i64 7]) (by simp [results,Tt.val,Tryz.results167,go_sem,z0,z1,z2,z3]) rfl ⟨_,by rw [HP.out.1,HP.out.2]; rfl,by rw [HP.out.2]; exact Pt.own_nil _ _,below_put (below_put (below_put (below_put (below_put HBe.out.1 (by have := HBe.out.2; omega) _ _) (by have := HBe.out.2; omega) _ _) (by have := HBe.out.2; omega) _ _) (by have := HBe.out.2; omega) _ _) (by have := HBe.out.2; omega) _ _⟩
end Go.Proofs.YtjpfpojbalepeaaGreat
namespace Go.Proofs.YtjpfpojbalepeaaGreat
open Go.RowKit
open Vt (Rt)
open Go.Sort (grow)
theorem Pt.make_room (n : Nat) (hn : n ≤ 1000) (u : World) : (Instr.makeSlice 62 (.int .i64 0) (.int .i64 (n : Int))).run Tryz.prog u =
  .ok (.slice (some ⟨u.heap.size,0,none⟩) 0 n) (u.alloc (.cells (Pt.zeros n) 105)) := by
 obtain ⟨i0,hi,hz0,hz1,hz2⟩ := info_parts Pt.info
 have h := run_make (P := Tryz.prog) u 62 105 i0 Pt.zeroV Tryz.underlying62 hi hz0 .i64 .i64 0 (n : Int) (by omega) (by omega) (by rw [hz2]; omega) (by omega)
 rw [hz1,Int.toNat_natCast,Pt.made] at h
 exact h
structure TSt (w wr : World) (g q c : Nat) (y m d : Int) (ps Z : List Pt.T) : Prop where
 gw : w.heap.size = g
 lo : g + 2 ≤ q
 bel : Below w.heap.size w wr
 day : DayC wr g y m d
 res : Tt.At wr (g + 1) 0 0 0 (.slice none 0 0)
 blk : Pt.Block wr q (ps ++ Z)
 len : c = (ps ++ Z).length
 sh : ∀ r ∈ ps,Pt.Short r
section
variable {w wr v : World} {g q c : Nat} {y m d : Int} {ps Z : List Pt.T}
theorem TSt.below (H : TSt w wr g q c y m d ps Z) (b : Below wr.heap.size wr v) : TSt w v g q c y m d ps Z :=
 ⟨H.gw,H.lo,bchain H.bel b,H.day.below b,H.res.below b,H.blk.below b,H.len,H.sh⟩
theorem DayC.under {u v : World} {b B : Nat} {y m d : Int} (h : DayC u b y m d) (k : Below B u v) (hb : b < B) : DayC v b y m d := by
 obtain ⟨h0,h1,h2⟩ := h
 unfold DayC
 rw [k.cell (p := ⟨b,0,none⟩) hb,k.cell (p := ⟨b,1,none⟩) hb,k.cell (p := ⟨b,2,none⟩) hb]
 exact ⟨h0,h1,h2⟩
theorem TSt.parts (H : TSt w wr g q c y m d ps Z) {qs Y : List Pt.T} (b : Below q wr v) (hB : Pt.Block v q (qs ++ Y)) (hc : c = (qs ++ Y).length) (hs : ∀ r ∈ qs,Pt.Short r) : TSt w v g q c y m d qs Y := by
 have e := H.gw
 have lo := H.lo
 exact ⟨e,lo,H.bel.trans (b.mono (by omega)),H.day.under b (by omega),(b.block _ (by omega)).trans H.res,hB,hc,hs⟩
end
theorem Pt.own_slice {w : World} {B : Nat} {v : Value} {M : List Pt.T} (h : Pt.Own w B v M) : ∃ ao n c,v = .slice ao n c := by
 rcases h.2 with ⟨h',_⟩ | ⟨g,cap,cur,h',_⟩
 · exact ⟨_,_,_,h'⟩
 · exact ⟨_,_,_,h'⟩
theorem enter_short {c : ByteArray} {bp n : Int} (hc : c.size ≤ 140737488355328) (hb : Fit bp) {ps : List Pt.T} (hs : ∀ r ∈ ps,Pt.Short r) (he : Iv.enterE c bp n ps = 0) : ∀ r ∈ Iv.enter c bp n ps,Pt.Short r := by
 have h1 := ins_short hc hb hs
 have h2 := part_short hc hb hs
 have h3 := Iv.err_0 he
 intro r hr
 unfold Iv.enter at hr
 obtain ⟨j,hj,e'⟩ := List.getElem_of_mem hr
 rw [List.getElem_set] at e'
 split at e'
 ·
  rw [← e']
  exact ⟨h2.1,h2.2.1,h3,h2.2.2.2⟩
 · exact h1 r (e' ▸ List.getElem_mem _)
set_option maxHeartbeats 8000000 in
theorem inv_total (rs : List Rt) (ls : List Ln.T) (ao bo : Option Addr) (n ca k0 cb : Nat) (y m d : Int) (w : World) (hR : Rts w ao n ca rs) (hL : Ln.Ls w bo k0 cb ls) (hy : Fit y) (hm : Fit m) (hd : Fit d) :
  Calls Tryz.prog 141 #[.slice ao n ca,dayV y m d,.slice bo k0 cb] w (Tt.Ans w (Iv.totE rs y m d ls) (Iv.totT rs y m d ls)) := by
 have HR := Lib.hid hR
 have HL := Lib.hid hL
 have HLn := Lib.hid hL.len
 have HFt := Lib.hid (And.intro hy (And.intro hm hd))
 have hcb := hL.reach
 have hfb := hL.fits
 clear hR hL hy hm hd
 obtain ⟨U,hU⟩ : ∃ U,(w.alloc (.cells #[.int .i64 y,.int .i64 m,.int .i64 d] 23)).alloc (.cells #[.int .i64 0,.int .i64 0,.int .i64 0,.slice none 0 0] 64) = U := ⟨_,rfl⟩
 have HP0 : Hid (PSt w U w.heap.size y m d) := by
  have b1 : Below w.heap.size w (w.alloc (.cells #[.int .i64 y,.int .i64 m,.int .i64 d] 23)) := (Below.refl _ _).alloc (Nat.le_refl _) _
  have b2 := Tt.below_own (w.alloc (.cells #[.int .i64 y,.int .i64 m,.int .i64 d] 23)) 0 0 0 (.slice none 0 0)
  have hA := Tt.at_box (w.alloc (.cells #[.int .i64 y,.int .i64 m,.int .i64 d] 23)) 0 0 0 (.slice none 0 0)
  rw [show (w.alloc (.cells #[.int .i64 y,.int .i64 m,.int .i64 d] 23)).heap.size = w.heap.size + 1 by simp] at hA
  exact hU ▸ ⟨rfl,bchain b1 b2,(dayC_box w y m d).below b2,hA⟩
 obtain ⟨g,hg⟩ : ∃ g,w.heap.size = g := ⟨_,rfl⟩
 have HUs : Hid (U = (w.alloc (.cells #[.int .i64 y,.int .i64 m,.int .i64 d] 23)).alloc (.cells #[.int .i64 0,.int .i64 0,.int .i64 0,.slice none 0 0] 64)) := Lib.hid hU.symm
 have HUz : Hid (U.heap.size = w.heap.size + 2) := Lib.hid (by rw [← hU]; simp)
 rw [hg] at HP0 HUz
 clear hU
 have hday := HP0.out.day
 unfold DayC at hday
 rw [HUs.out,← hg] at hday
 obtain ⟨d0,d1,d2⟩ := hday
 unfold dayV
 go_enter Tryz.func141,Tryz.ntmps141
 go_wp2_with fail
 rw [← HUs.out]
 try rw [hg]
 clear d0 d1 d2 HUs hg
 refine (inv_ask rs ls ao n ca k0 y m d U _ (Below.refl _ _) (HR.out.below HP0.out.bel) HFt.out.1 HFt.out.2.1 HFt.out.2.2 HLn.out (by omega)).mono ?_
 rintro e w1 ⟨rfl,b1⟩
 have H1 := Lib.hid (HP0.out.below b1)
 have HR1 := Lib.hid (HR.out.below (bchain HP0.out.bel b1))
 clear b1
 by_cases hH : Iv.headE rs y m d ls = 0
 ·
  rw [hH]
  have HH := Lib.hid hH
  have hk12 : 1 ≤ k0 ∧ k0 ≤ 12 := by
   have h1 := hH
   unfold Iv.headE at h1
   rw [← HLn.out] at h1
   split at h1
   · omega
   ·
    split at h1
    · omega
    ·
     split at h1
     · omega
     ·
      split at h1
      · omega
      · omega
  obtain ⟨hk1,hk2⟩ := hk12
  have hmk := Pt.make_room k0 (by omega)
  have HS : Hid (TSt w (w1.alloc (.cells (Pt.zeros k0) 105)) g w1.heap.size k0 y m d [] (List.replicate k0 Pt.zero)) := Lib.hid (by
   have b2 : Below w1.heap.size w1 (w1.alloc (.cells (Pt.zeros k0) 105)) := (Below.refl _ _).alloc (Nat.le_refl _) _
   have h2 := H1.out.below b2
   exact ⟨h2.gw,H1.out.res.lt,h2.bel,h2.day,h2.res,Pt.block_made w1 k0,by simp,by simp⟩)
  clear hH
  go_wp2_with fail
  generalize w1.alloc (.cells (Pt.zeros k0) 105) = V at *
  generalize w1.heap.size = q at *
  clear H1 HR1 HP0 HUz hmk
  go_loopw [9,11,12,13,28] (fun p _ _ _ i wr => ∃ (k np : Nat) (ps Z : List Pt.T),k ≤ k0 ∧ i = .int .i64 k ∧ p = .slice (some ⟨q,0,none⟩) np k0 ∧ Hid (TSt w wr g q k0 y m d ps Z) ∧ Hid (Iv.goE rs y m d (ls.drop k) ps = Iv.goE rs y m d ls [] ∧ Iv.goL rs y m d (ls.drop k) ps = Iv.goL rs y m d ls [] ∧ ps.length ≤ k ∧ np = ps.length)) (fun _ _ _ _ i _ => k0 - (intOf i).toNat)
  case atStart => exact ⟨0,0,[],_,by omega,rfl,rfl,HS,Lib.hid ⟨rfl,rfl,Nat.le_refl _,rfl⟩⟩
  case round =>
   clear HS
   rename World => wz
   obtain ⟨k,np,ps,Z,hk,rfl,rfl,H,HG⟩ := hrel
   by_cases hlt : k < k0
   ·
    obtain ⟨b,off,rfl⟩ := HL.out.at (by omega)
    have hkl : k < ls.length := HLn.out ▸ hlt
    have hrow := (HL.out.row k hkl).below H.out.bel
    have HSh := Lib.hid (HL.out.short _ (List.getElem_mem hkl))
    have HG1 := Lib.hid (Iv.goE_at rs y m d ls ps k hkl)
    have HG2 := Lib.hid (Iv.goL_at rs y m d ls ps k hkl)
    obtain ⟨x,hx⟩ : ∃ x,ls[k] = x := ⟨_,rfl⟩
    rw [hx] at hrow HSh HG1 HG2
    clear hx
    obtain ⟨g0,g1,g2,g3⟩ := hrow
    obtain ⟨W,hW,hbW,hC⟩ := Ln.boxed1 wz x
    have H1 := Lib.hid (H.out.below hbW)
    have HC := Lib.hid hC
    unfold Ln.C at hC
    obtain ⟨a0,a1,a2,a3⟩ := hC
    have hD := H1.out.day
    unfold DayC at hD
    obtain ⟨d0,d1,d2⟩ := hD
    clear hbW H
    go_wp2_with fail
    refine (inv_find rs x ao n ca y m d _ (HR.out.below H1.out.bel) HFt.out.1 HFt.out.2.1 HFt.out.2.2 HSh.out).mono ?_
    rintro e w2 ⟨rfl,b2⟩
    have H2 := Lib.hid (H1.out.below b2)
    have hC := HC.out.below b2
    unfold Ln.C at hC
    clear b2 hW a0 a1 a2 a3 d0 d1 d2 g0 g1 g2 g3 HC H1
    obtain ⟨a0,a1,a2,a3⟩ := hC
    have HAl := Lib.hid (Iv.ask_line (rs := rs) (y := y) (m := m) (d := d) (x := x))
    by_cases hA : Iv.askE rs y m d x = 0
    ·
     have hV : Iv.askV rs y m d x = (Vt.find rs x.category y m d).1 := if_pos hA
     rw [if_pos hA] at HAl
     rw [hA,hV]
     have HFb := Lib.hid (find_fit HR.out.short x.category y m d)
     obtain ⟨bp,hbp⟩ : ∃ bp,(Vt.find rs x.category y m d).1 = bp := ⟨_,rfl⟩
     rw [hbp] at HFb HG1 HG2 ⊢
     clear hbp hA hV
     obtain ⟨z,Z',hZ⟩ : ∃ z Z',Z = z :: Z' := by
      cases Z with
      | nil =>
       have h1 := H2.out.len
       have h2 := HG.out.2.2.1
       rw [List.append_nil] at h1
       omega
      | cons z Z' => exact ⟨z,Z',rfl⟩
     subst hZ
     go_wp2_with fail
     refine (inv_with ps Z' z x bp q np k0 _ H2.out.blk HG.out.2.2.2 H2.out.len (by omega) HSh.out HFb.out H2.out.sh).mono ?_
     rintro e w3 ⟨b3,h3⟩
     rcases h3 with ⟨e1,e2,Y,rfl,hB,hY⟩ | ⟨e1,v,rfl⟩
     ·
      have H3 := Lib.hid (H2.out.parts b3 hB hY (enter_short HSh.out.2.1 HFb.out H2.out.sh e2))
      rw [HAl.out,e1,if_neg (by simp),e2,if_neg (by simp)] at HG1
      obtain ⟨qs,hqs⟩ : ∃ qs,Iv.enter x.category bp (x.count * x.price) ps = qs := ⟨_,rfl⟩
      have HQl : Hid (qs.length ≤ k + 1) := Lib.hid (by rw [← hqs]; exact Nat.le_trans (Iv.enter_len ps) (by have := HG.out.2.2.1; omega))
      rw [hqs] at H3 HG1 HG2 ⊢
      obtain ⟨nq,hnq⟩ : ∃ nq,qs.length = nq := ⟨_,rfl⟩
      have HNq := Lib.hid hnq
      rw [hnq]
      clear hqs hnq b3 hB hY e1 e2 H2 a0 a1 a2 a3
      go_wp2_with fail
      go_roundw
      case rel => exact ⟨k + 1,nq,qs,Y,by omega,by go_num,rfl,H3,Lib.hid ⟨by rw [← HG1.out]; exact HG.out.1,by rw [← HG2.out]; exact HG.out.2.1,HQl.out,HNq.out.symm⟩⟩
      case measure => simp [intOf]; omega
     ·
      have hE7 : Iv.goE rs y m d (ls.drop k) ps = 7 := by
       rw [HG1.out,HAl.out]
       rcases Mn.err_two (x.count * x.price) with e3 | e3
       ·
        rw [e3] at e1 ⊢
        rw [if_neg (by simp),if_pos (e1.resolve_left (by simp))]
       ·
        rw [e3]
        rfl
      have HP := Lib.hid (Iv.tot_line HH.out (by rw [← HG.out.1,hE7]; omega))
      rw [← HG.out.1,hE7] at HP
      have lo := H2.out.lo
      have HRs : Hid (PSt w w3 g y m d) := Lib.hid ⟨H2.out.gw,H2.out.bel.trans (b3.mono (by have := H2.out.gw; omega)),H2.out.day.under b3 (by omega),(b3.block _ (by omega)).trans H2.out.res⟩
      clear hE7 e1 b3 H2 a0 a1 a2 a3 lo
      obtain ⟨z0,z1,z2,z3⟩ := HRs.out.res.cells
      have f0 := HRs.out.res.frozen 0
      have f1 := HRs.out.res.frozen 1
      have f2 := HRs.out.res.frozen 2
      have f3 := HRs.out.res.frozen 3
      have HBe := Lib.hid (And.intro HRs.out.bel HRs.out.gw)
      go_wp2_with fail
      exact bodyPost_ret (v := .tuple #[Tt.val 0 0 0 (.slice none 0 0),.int .i64 7]) (by simp [results,Tt.val,Tryz.results141,go_sem,z0,z1,z2,z3]) rfl ⟨_,by rw [HP.out.1,HP.out.2]; rfl,by rw [HP.out.2]; exact Pt.own_nil _ _,Mem.bset (Mem.bset (Mem.bset (Mem.bset HBe.out.1 (by have := HBe.out.2; omega) _ _) (by have := HBe.out.2; omega) _ _) (by have := HBe.out.2; omega) _ _) (by have := HBe.out.2; omega) _ _⟩
    ·
     rw [if_neg hA] at HAl
     obtain ⟨E,hE⟩ : ∃ E,Iv.askE rs y m d x = E := ⟨_,rfl⟩
     rw [hE] at HAl hA ⊢
     obtain ⟨bv,hbv⟩ : ∃ bv,Iv.askV rs y m d x = bv := ⟨_,rfl⟩
     rw [hbv]
     have hE7 : Iv.goE rs y m d (ls.drop k) ps = E := by
      rw [HG1.out,HAl.out,if_pos hA]
     have HP := Lib.hid (Iv.tot_line HH.out (by rw [← HG.out.1,hE7]; exact hA))
     rw [← HG.out.1,hE7] at HP
     have hne : (E != 0) = true := bne_iff_ne.2 hA
     clear hE hbv hE7 hA a0 a1 a2 a3
     obtain ⟨z0,z1,z2,z3⟩ := H2.out.res.cells
     have f0 := H2.out.res.frozen 0
     have f1 := H2.out.res.frozen 1
     have f2 := H2.out.res.frozen 2
     have f3 := H2.out.res.frozen 3
     have HBe := Lib.hid (And.intro H2.out.bel H2.out.gw)
     go_wp2_with fail
     exact bodyPost_ret (v := .tuple #[Tt.val 0 0 0 (.slice none 0 0),.int .i64 E]) (by simp [results,Tt.val,Tryz.results141,go_sem,z0,z1,z2,z3]) rfl ⟨_,by rw [HP.out.1,HP.out.2]; rfl,by rw [HP.out.2]; exact Pt.own_nil _ _,Mem.bset (Mem.bset (Mem.bset (Mem.bset HBe.out.1 (by have := HBe.out.2; omega) _ _) (by have := HBe.out.2; omega) _ _) (by have := HBe.out.2; omega) _ _) (by have := HBe.out.2; omega) _ _⟩
   ·
    obtain rfl : k = k0 := by omega
    have HGo : Hid (Iv.goE rs y m d ls [] = 0 ∧ Iv.goL rs y m d ls [] = ps) := Lib.hid (by
     have h := HG.out
     rw [List.drop_eq_nil_of_le (Nat.le_of_eq HLn.out.symm)] at h
     exact ⟨h.1.symm,h.2.1.symm⟩)
    have HSum := Lib.hid (Iv.tot_sum HH.out HGo.out.1)
    rw [HGo.out.2] at HSum
    go_wp2_with fail
    refine (inv_whole ps Z q np k _ H.out.blk HG.out.2.2.2 H.out.len (by omega) H.out.sh).mono ?_
    rintro e w3 ⟨v,rfl,hO,b3⟩
    have lo := H.out.lo
    have HRs : Hid (PSt w w3 g y m d) := Lib.hid ⟨H.out.gw,H.out.bel.trans (b3.mono (by have := H.out.gw; omega)),H.out.day.under b3 (by omega),(b3.block _ (by omega)).trans H.out.res⟩
    have HO := Lib.hid (Pt.own_mono hO (show g + 2 ≤ q from lo))
    have HT : Hid (Iv.totE rs y m d ls = Iv.sumE ps ∧ Iv.totT rs y m d ls = Iv.sumW ps) := Lib.hid HSum.out
    obtain ⟨E,hE⟩ : ∃ E,Iv.sumE ps = E := ⟨_,rfl⟩
    obtain ⟨T,hT⟩ : ∃ T,Iv.sumW ps = T := ⟨_,rfl⟩
    rw [hE,hT] at HT ⊢
    rw [hT] at HO
    obtain ⟨N,X,G,qs⟩ := T
    clear hE hT hO b3 lo HSum H
    unfold Tt.val
    obtain ⟨z0,z1,z2,z3⟩ := HRs.out.res.cells
    have f0 := HRs.out.res.frozen 0
    have f1 := HRs.out.res.frozen 1
    have f2 := HRs.out.res.frozen 2
    have f3 := HRs.out.res.frozen 3
    have HBe := Lib.hid (And.intro HRs.out.bel HRs.out.gw)
    obtain ⟨vo,vn,vc,rfl⟩ := Pt.own_slice HO.out
    go_wp2_with fail
    refine bodyPost_ret (v := .tuple #[Tt.val N X G (.slice vo vn vc),.int .i64 E]) (by simp [results,Tt.val,Tryz.results141,go_sem,z0,z1,z2,z3]) rfl ⟨.slice vo vn vc,by rw [HT.out.1,HT.out.2],?_,Mem.bset (Mem.bset (Mem.bset (Mem.bset HBe.out.1 (by have := HBe.out.2; omega) _ _) (by have := HBe.out.2; omega) _ _) (by have := HBe.out.2; omega) _ _) (by have := HBe.out.2; omega) _ _⟩
    rw [HT.out.2]
    have ho : Pt.Own _ (g + 2) (.slice vo vn vc) qs := Pt.own_far (Pt.own_far (Pt.own_far (Pt.own_far HO.out (b := g + 1) (by omega) 0 (.int .i64 N)) (b := g + 1) (by omega) 1 (.int .i64 X)) (b := g + 1) (by omega) 2 (.int .i64 G)) (b := g + 1) (by omega) 3 (.slice vo vn vc)
    exact Pt.own_mono ho (by have := HBe.out.2; omega)
 ·
  have HP := Lib.hid (Iv.tot_head hH)
  obtain ⟨E,hE⟩ : ∃ E,Iv.headE rs y m d ls = E := ⟨_,rfl⟩
  rw [hE] at HP hH ⊢
  have hne : (E != 0) = true := bne_iff_ne.2 hH
  clear hE hH
  obtain ⟨z0,z1,z2,z3⟩ := H1.out.res.cells
  have f0 := H1.out.res.frozen 0
  have f1 := H1.out.res.frozen 1
  have f2 := H1.out.res.frozen 2
  have f3 := H1.out.res.frozen 3
  have HBe := Lib.hid (And.intro H1.out.bel H1.out.gw)
  go_wp2_with fail
  exact bodyPost_ret (v := .tuple #[Tt.val 0 0 0 (.slice none 0 0),.int .i64 E]) (by simp [results,Tt.val,Tryz.results141,go_sem,z0,z1,z2,z3]) rfl ⟨_,by rw [HP.out.1,HP.out.2]; rfl,by rw [HP.out.2]; exact Pt.own_nil _ _,Mem.bset (Mem.bset (Mem.bset (Mem.bset HBe.out.1 (by have := HBe.out.2; omega) _ _) (by have := HBe.out.2; omega) _ _) (by have := HBe.out.2; omega) _ _) (by have := HBe.out.2; omega) _ _⟩
end Go.Proofs.YtjpfpojbalepeaaGreat
namespace Go.Proofs.YtjpfpojbalepeaaGreat
open Vt (Rt)
theorem goL_short {rs : List Rt} {y m d : Int} (hr : ∀ r ∈ rs,Short r) : ∀ (ls : List Ln.T) (ps : List Pt.T),(∀ x ∈ ls,Ln.Short x) → (∀ r ∈ ps,Pt.Short r) → Iv.goE rs y m d ls ps = 0 → ∀ r ∈ Iv.goL rs y m d ls ps,Pt.Short r
 | [],_,_,hp,_ => hp
 | x :: l,ps,hl,hp,he => by
  have hx := hl x (by simp)
  rw [Iv.goE] at he
  by_cases h1 : Iv.lineE rs y m d x = 0
  ·
   rw [h1,if_neg (by simp)] at he
   by_cases h2 : Iv.enterE x.category (Vt.find rs x.category y m d).1 (x.count * x.price) ps = 0
   ·
    rw [h2,if_neg (by simp)] at he
    exact goL_short hr l _ (fun z hz => hl z (by simp [hz])) (enter_short hx.2.1 (find_fit hr x.category y m d) hp h2) he
   ·
    rw [if_pos h2] at he
    omega
  ·
   rw [if_pos h1] at he
   exact absurd he h1
theorem tot_0 {rs : List Rt} {y m d : Int} {ls : List Ln.T} (h : Iv.totE rs y m d ls = 0) : Iv.headE rs y m d ls = 0 ∧ Iv.goE rs y m d ls [] = 0 ∧ Iv.sumE (Iv.goL rs y m d ls []) = 0 ∧ Iv.totT rs y m d ls = Iv.sumT (Iv.goL rs y m d ls []) := by
 by_cases h1 : Iv.headE rs y m d ls = 0
 ·
  by_cases h2 : Iv.goE rs y m d ls [] = 0
  ·
   have h3 := Iv.tot_sum h1 h2
   rw [h] at h3
   refine ⟨h1,h2,h3.1.symm,?_⟩
   rw [h3.2,if_pos h3.1.symm]
  ·
   have h3 := Iv.tot_line h1 h2
   rw [h] at h3
   exact absurd h3.1.symm h2
 ·
  have h3 := Iv.tot_head h1
  rw [h] at h3
  exact absurd h3.1.symm h1
theorem totT_short {rs : List Rt} {y m d : Int} {ls : List Ln.T} (hr : ∀ r ∈ rs,Short r) (hl : ∀ x ∈ ls,Ln.Short x) : ∀ r ∈ (Iv.totT rs y m d ls).parts,Pt.Short r := by
 by_cases h : Iv.totE rs y m d ls = 0
 ·
  obtain ⟨_,h2,_,h4⟩ := tot_0 h
  rw [h4]
  intro r hr'
  obtain ⟨p,hp,rfl⟩ := List.mem_map.1 (show r ∈ (Iv.goL rs y m d ls []).map Iv.taxed from hr')
  have hs := goL_short hr ls [] hl (by simp) h2 p hp
  exact ⟨hs.1,hs.2.1,hs.2.2.1,tax_fit p.net p.bp⟩
 ·
  have : Iv.totT rs y m d ls = Iv.Tot.zero := if_neg h
  rw [this]
  intro r hr'
  cases hr'
theorem tot_len {rs : List Rt} {y m d : Int} {ls : List Ln.T} : (Iv.totT rs y m d ls).parts.length ≤ 12 := by
 by_cases h : Iv.totE rs y m d ls = 0
 ·
  obtain ⟨h1,_,_,h4⟩ := tot_0 h
  have hl := Iv.goL_len rs y m d ls []
  rw [h4]
  show ((Iv.goL rs y m d ls []).map Iv.taxed).length ≤ 12
  rw [List.length_map]
  unfold Iv.headE at h1
  split at h1
  · omega
  ·
   split at h1
   · omega
   ·
    split at h1
    · omega
    ·
     split at h1
     · omega
     ·
      simp only [List.length_nil] at hl
      omega
 ·
  have : Iv.totT rs y m d ls = Iv.Tot.zero := if_neg h
  rw [this]
  show (0 : Nat) ≤ 12
  omega
theorem sumT_fit {l : List Pt.T} (h : Iv.sumE l = 0) : Fit (Iv.nets l) ∧ Fit (Iv.taxes l) ∧ Fit (Iv.nets l + Iv.taxes l) := by
 have hu : ∀ (l : List Pt.T) (N T : Int),Fit N → Fit T → Iv.upE l N T = 0 → Fit (N + Iv.nets l) ∧ Fit (T + Iv.taxes l) := by
  intro l
  induction l with
  | nil =>
   intro N T hN hT _
   show Fit (N + 0) ∧ Fit (T + 0)
   rw [Int.add_zero,Int.add_zero]
   exact ⟨hN,hT⟩
  | cons p l ih =>
   intro N T hN hT he
   rw [Iv.upE] at he
   by_cases h1 : Sh.taxE p.net p.bp = 0
   ·
    rw [h1,if_neg (by simp)] at he
    by_cases h2 : Mn.err (N + p.net) = 0
    ·
     rw [h2,if_neg (by simp)] at he
     by_cases h3 : Mn.err (T + Sh.taxV p.net p.bp) = 0
     ·
      rw [h3,if_neg (by simp)] at he
      have := ih _ _ (Iv.err_0 h2) (Iv.err_0 h3) he
      rw [Iv.nets,Iv.taxes,← Int.add_assoc,← Int.add_assoc]
      exact this
     ·
      rw [if_pos h3] at he
      omega
    ·
     rw [if_pos h2] at he
     omega
   ·
    rw [if_pos h1] at he
    exact absurd he h1
 unfold Iv.sumE at h
 by_cases h1 : Iv.upE l 0 0 = 0
 ·
  rw [h1,if_neg (by simp)] at h
  have := hu l 0 0 ⟨by omega,by omega⟩ ⟨by omega,by omega⟩ h1
  rw [Int.zero_add,Int.zero_add] at this
  exact ⟨this.1,this.2,Iv.err_0 h⟩
 ·
  rw [if_pos h1] at h
  exact absurd h h1
theorem totT_fit (rs : List Rt) (y m d : Int) (ls : List Ln.T) : Fit (Iv.totT rs y m d ls).net ∧ Fit (Iv.totT rs y m d ls).tax ∧ Fit (Iv.totT rs y m d ls).gross := by
 have h0 : Fit 0 := ⟨by omega,by omega⟩
 by_cases h : Iv.totE rs y m d ls = 0
 ·
  obtain ⟨_,_,h3,h4⟩ := tot_0 h
  rw [h4]
  exact sumT_fit h3
 ·
  have : Iv.totT rs y m d ls = Iv.Tot.zero := if_neg h
  rw [this]
  exact ⟨h0,h0,h0⟩
end Go.Proofs.YtjpfpojbalepeaaGreat
namespace Go.Proofs.YtjpfpojbalepeaaGreat
theorem Bl.goL_len : ∀ (ls M : List Ba.T),(Po.goL ls M).length ≤ M.length + ls.length
 | [],M => Nat.le_refl _
 | x :: l,M => by
  have h1 := Bl.goL_len l (Po.enter x.acct x.amt M)
  have h2 := Po.enter_len (c := x.acct) (n := x.amt) M
  show (Po.goL l (Po.enter x.acct x.amt M)).length ≤ _
  rw [List.length_cons]
  omega
theorem Bl.entrL_len (g : Int) (ps : List Pt.T) : (Po.entrL g ps).length = 1 + 2 * ps.length := by
 unfold Po.entrL
 rw [List.length_cons]
 induction ps with
 | nil => rfl
 | cons p l ih =>
  rw [List.flatMap_cons,List.length_append,List.length_cons]
  have : (Po.rowsOf p).length = 2 := rfl
  omega
theorem Bl.enterAll_len : ∀ {l : List Bl.Ps} {b c : List Ba.T},Bl.enterAll l b = some c → (∀ p ∈ l,p.tot.parts.length ≤ 12) → c.length ≤ b.length + 25 * l.length
 | [],b,c,h,_ => by
  rw [Bl.enterAll,Option.some.injEq] at h
  rw [← h]
  simp
 | p :: l,b,c,h,k => by
  rw [Bl.enterAll] at h
  split at h
  ·
   have h1 := Bl.enterAll_len h fun q hq => k q (by simp [hq])
   have h2 := Bl.goL_len (Po.entrL p.tot.gross p.tot.parts) b
   have h3 := Bl.entrL_len p.tot.gross p.tot.parts
   have h4 := k p (by simp)
   rw [List.length_cons]
   omega
  · cases h
theorem Bl.Right.book_len {s : Bl.St} (h : Bl.Right s) : s.book.length ≤ 1000 := by
 have h1 := Bl.enterAll_len h.book fun p hp => (h.tot p hp).few
 have h2 := h.few
 simp at h1
 omega
theorem Bl.name_small {c : ByteArray} (h : Rn.name (txt c) = true) : c.size ≤ 140737488351232 := by
 unfold Rn.name at h
 simp only [Bool.and_eq_true,decide_eq_true_iff] at h
 have h2 := h.1.2
 have e : c.size = (txt c).length := by unfold txt; rw [Array.length_toList]; rfl
 omega
theorem Bl.TotR.small {t : Iv.Tot} (h : Bl.TotR t) : ∀ x ∈ t.parts,x.cat.size ≤ 140737488351232 := fun x hx => Bl.name_small (h.each x hx).1
end Go.Proofs.YtjpfpojbalepeaaGreat
namespace Go.Proofs.YtjpfpojbalepeaaGreat
open Go.RowKit
open Mem
open Go.Sort (grow)
def Ca.cmdL (r : Ca.T) : List Value := [.int .i64 r.kind,.string r.ser,.int .i64 r.lim,.string r.cat,.int .i64 r.ry,.int .i64 r.rm,.int .i64 r.rd,.int .i64 r.bp,.int .i64 r.y,.int .i64 r.m,.int .i64 r.d,.slice r.lines.ao r.lines.n r.lines.cap,.string r.ofS,.int .i64 r.ofN,.int .i64 r.csess]
def Ca.cmdV (r : Ca.T) : Value := .agg #[.int .i64 r.kind,.string r.ser,.int .i64 r.lim,.string r.cat,.int .i64 r.ry,.int .i64 r.rm,.int .i64 r.rd,.int .i64 r.bp,.int .i64 r.y,.int .i64 r.m,.int .i64 r.d,.slice r.lines.ao r.lines.n r.lines.cap,.string r.ofS,.int .i64 r.ofN,.int .i64 r.csess]
def Ca.cmdB (r : Ca.T) : Obj := .cells #[.int .i64 r.kind,.string r.ser,.int .i64 r.lim,.string r.cat,.int .i64 r.ry,.int .i64 r.rm,.int .i64 r.rd,.int .i64 r.bp,.int .i64 r.y,.int .i64 r.m,.int .i64 r.d,.slice r.lines.ao r.lines.n r.lines.cap,.string r.ofS,.int .i64 r.ofN,.int .i64 r.csess] 30
theorem Ca.infoC : (Tryz.prog.info? 30).map (·.size) = some 15 := by kernel_rfl
theorem Ca.wpl_cmd {ops : Array Oper} {rest : List Oper} {op : Oper} {a : Act} {w : World} {Q : Exit → Act → World → Prop} {t : Tmp} {g : Nat} {r : Ca.T} (hA : w.heap[g]? = some (Ca.cmdB r)) (ho : op.op = .load 30 (.tmp t)) (hgd : op.guard = none)
  (hx : a.tmps.toList[t]? = some (.pointer (some ⟨g,0,none⟩))) (k : wpList Tryz.prog ops Q rest (a.put op.dst (Ca.cmdV r)) w) : wpList Tryz.prog ops Q (op :: rest) a w :=
 wpList_load_row hgd 30 (.tmp t) ho g (Ca.evT hx) 30 (Ca.cmdL r).toArray (0,0) _ hA Tryz.underlying30 rfl (by rw [Ca.infoC]; rfl) k
theorem Tt.wpl_load {ops : Array Oper} {rest : List Oper} {op : Oper} {a : Act} {w : World} {Q : Exit → Act → World → Prop} {t : Tmp} {g : Nat} {N X G : Int} {v : Value} (hA : Tt.At w g N X G v) (ho : op.op = .load 64 (.tmp t)) (hgd : op.guard = none)
  (hx : a.tmps.toList[t]? = some (.pointer (some ⟨g,0,none⟩))) (k : wpList Tryz.prog ops Q rest (a.put op.dst (.agg #[.int .i64 N,.int .i64 X,.int .i64 G,v])) w) : wpList Tryz.prog ops Q (op :: rest) a w :=
 wpList_load_row hgd 64 (.tmp t) ho g (Ca.evT hx) 64 #[.int .i64 N,.int .i64 X,.int .i64 G,v] (0,0) _ hA Tryz.underlying64 rfl (by rw [Tt.infoT]; rfl) k
theorem Tt.wpl_new {ops : Array Oper} {rest : List Oper} {op : Oper} {a : Act} {w : World} {Q : Exit → Act → World → Prop} {t s : Tmp} {old : Array Value} {g : Nat} {N X G : Int} {ao : Option Addr} {n c : Nat} (ho : op.op = .store 64 (.tmp t) (.tmp s)) (hgd : op.guard = none)
  (hx : a.tmps.toList[t]? = some (.pointer (some ⟨g,0,none⟩))) (hg : g = w.heap.size) (hy : a.tmps.toList[s]? = some (Tt.val N X G (.slice ao n c))) (hold : old.size = 4)
  (k : wpList Tryz.prog ops Q rest (a.put op.dst undef) (Tt.box w N X G (.slice ao n c))) : wpList Tryz.prog ops Q (op :: rest) a (w.alloc (.cells old 64)) := by
 subst hg
 refine wpList_store_row hgd 64 (.tmp t) (.tmp s) ho w.heap.size #[.int .i64 N,.int .i64 X,.int .i64 G,.slice ao n c] (Ca.evT hx) (Ca.evT hy) 64 old (heap_alloc_new w _) (by rw [Tt.infoT]; rfl) (by rw [hold]; rfl) (by simp [Value.oneCell']) ?_
 rw [Ca.set_rowW]
 exact k
def Bl.billP (s : Bl.St) (c : Bl.Cm) : Bl.Ps := ⟨c.ser,0,c.y,c.m,c.d,Iv.totT s.tab c.y c.m c.d c.lines,.empty,0,false⟩
def Bl.billS (s : Bl.St) (c : Bl.Cm) : Bl.St := if Iv.totE s.tab c.y c.m c.d c.lines = 0 then Bl.issS s (Bl.billP s c) else s
def Bl.billR (s : Bl.St) (c : Bl.Cm) : Rp.T := if Iv.totE s.tab c.y c.m c.d c.lines = 0 then Bl.issR s (Bl.billP s c) else ⟨Iv.totE s.tab c.y c.m c.d c.lines,0,0⟩
structure Bl.IsM (w : World) (r : Ca.T) (c : Bl.Cm) : Prop where
 kind : r.kind = c.kind
 ser : r.ser = c.ser
 lim : r.lim = c.lim
 row : (⟨r.cat,r.ry,r.rm,r.rd,r.bp⟩ : Vt.Rt) = c.row
 y : r.y = c.y
 m : r.m = c.m
 d : r.d = c.d
 lines : Ln.Ls w r.lines.ao r.lines.n r.lines.cap c.lines
 ofS : r.ofS = c.ofS
 ofN : r.ofN = c.ofN
 csess : r.csess = c.sess
theorem Bl.IsC.isM {w : World} {r : Ca.T} {c : Bl.Cl} (h : Bl.IsC w r c) : Bl.IsM w r c.cmd := ⟨h.kind,h.ser,h.lim,h.row,h.y,h.m,h.d,h.lines,h.ofS,h.ofN,h.csess⟩
theorem Bl.IsM.below {w v : World} {r : Ca.T} {c : Bl.Cm} (h : Bl.IsM w r c) (k : Below w.heap.size w v) : Bl.IsM v r c := ⟨h.kind,h.ser,h.lim,h.row,h.y,h.m,h.d,h.lines.below k,h.ofS,h.ofN,h.csess⟩
set_option maxHeartbeats 8000000 in
theorem bil_bill (P0 : Nat → Prop) (s : Bl.St) (h : Bl.Sv) (r : Ca.T) (c : Bl.Cm) (w : World) (hL : Bl.Lp P0 w h s) (hI : Bl.IsM w r c) (hS : Ca.Short r) (hR : Bl.Right s) :
  Calls Tryz.prog 105 #[h.val,Ca.cmdV r] w (Bl.OutE P0 w (Bl.billS s c) (Bl.billR s c)) := by
 have HL := Lib.hid hL
 have HI := Lib.hid hI
 have HSh := Lib.hid hS
 have HR := Lib.hid hR
 obtain ⟨U,hU,hA,hF,hBk⟩ := Bl.fr4 w h (Ca.cmdB r)
 have c1 : U.cell? ⟨w.heap.size + 1,1,none⟩ = some (.string r.ser) := by rw [cell_of_row U _ 1 _ _ _ hBk]; rfl
 have c8 : U.cell? ⟨w.heap.size + 1,8,none⟩ = some (.int .i64 r.y) := by rw [cell_of_row U _ 8 _ _ _ hBk]; rfl
 have c9 : U.cell? ⟨w.heap.size + 1,9,none⟩ = some (.int .i64 r.m) := by rw [cell_of_row U _ 9 _ _ _ hBk]; rfl
 have c10 : U.cell? ⟨w.heap.size + 1,10,none⟩ = some (.int .i64 r.d) := by rw [cell_of_row U _ 10 _ _ _ hBk]; rfl
 have c11 : U.cell? ⟨w.heap.size + 1,11,none⟩ = some (.slice r.lines.ao r.lines.n r.lines.cap) := by rw [cell_of_row U _ 11 _ _ _ hBk]; rfl
 have HA := Lib.hid hA
 have HF := Lib.hid hF
 have HBk := Lib.hid hBk
 have HUs : Hid (w.heap.size + 1 + 1 + 1 < U.heap.size) := Lib.hid hF.rp.lt
 obtain ⟨x0,x1,x2,x3,x4,x5⟩ := hA.cells
 clear hL hI hS hR hA hF hBk
 unfold Bl.Sv.val Bl.sl Ca.cmdV
 unfold Ca.cmdB at hU
 go_enter Tryz.func105,Tryz.ntmps105
 go_wp2_with fail
 clear hU
 refine Calls.mono (R := Tt.Ans U (Iv.totE s.tab c.y c.m c.d c.lines) (Iv.totT s.tab c.y c.m c.d c.lines)) ?_ ?_
 ·
  rw [HI.out.y,HI.out.m,HI.out.d]
  exact inv_total s.tab c.lines h.tab.ao r.lines.ao h.tab.n h.tab.cap r.lines.n r.lines.cap c.y c.m c.d U (HL.out.tab.below HF.out.bel) (HI.out.lines.below HF.out.bel) (HI.out.y ▸ HSh.out.2.2.2.2.2.2.2.2.2.2.1) (HI.out.m ▸ HSh.out.2.2.2.2.2.2.2.2.2.2.2.1) (HI.out.d ▸ HSh.out.2.2.2.2.2.2.2.2.2.2.2.2.1)
 rintro e w1 ⟨v,rfl,o1,b1⟩
 have HTf := Lib.hid (totT_fit s.tab c.y c.m c.d c.lines)
 have HTs := Lib.hid (totT_short (rs := s.tab) (y := c.y) (m := c.m) (d := c.d) (ls := c.lines) HL.out.tab.short HI.out.lines.short)
 have HTl := Lib.hid (tot_len (rs := s.tab) (y := c.y) (m := c.m) (d := c.d) (ls := c.lines))
 have HTr := Lib.hid (Bl.tot_right (rs := s.tab) (y := c.y) (m := c.m) (d := c.d) (ls := c.lines))
 obtain ⟨P,hP⟩ : ∃ P,Bl.billP s c = P := ⟨_,rfl⟩
 have HP : Hid (P = ⟨c.ser,0,c.y,c.m,c.d,Iv.totT s.tab c.y c.m c.d c.lines,.empty,0,false⟩) := Lib.hid hP.symm
 have HBS : Hid (Bl.billS s c = if Iv.totE s.tab c.y c.m c.d c.lines = 0 then Bl.issS s P else s) := Lib.hid (by rw [← hP]; rfl)
 have HBR : Hid (Bl.billR s c = if Iv.totE s.tab c.y c.m c.d c.lines = 0 then Bl.issR s P else ⟨Iv.totE s.tab c.y c.m c.d c.lines,0,0⟩) := Lib.hid (by rw [← hP]; rfl)
 obtain ⟨T,hT⟩ : ∃ T,Iv.totT s.tab c.y c.m c.d c.lines = T := ⟨_,rfl⟩
 obtain ⟨E,hE⟩ : ∃ E,Iv.totE s.tab c.y c.m c.d c.lines = E := ⟨_,rfl⟩
 rw [hT] at o1 HTf HTs HTl HTr HP ⊢
 rw [hE] at HTr HBS HBR ⊢
 clear hP hT hE
 obtain ⟨po,pc,rfl,l1,i1⟩ := Pt.own_ls o1 HTs.out
 obtain ⟨pn,hpn⟩ : ∃ pn,T.parts.length = pn := ⟨_,rfl⟩
 rw [hpn] at l1 HTl ⊢
 clear hpn
 have HPl := Lib.hid l1
 have HIl := Lib.hid (inA_own (n := pn) i1)
 have hA1 := HA.out.below b1
 have HA1 := Lib.hid hA1
 have HF1 := Lib.hid (HF.out.below b1)
 have hBk1 := (b1.block _ (by have := HUs.out; omega)).trans HBk.out
 have HBk1 := Lib.hid hBk1
 have HB1 := Lib.hid (bchain HF.out.bel b1)
 have b2 := Tt.below_own w1 T.net T.tax T.gross (.slice po pn pc)
 obtain ⟨w2,hw2⟩ : ∃ w2,Tt.box w1 T.net T.tax T.gross (.slice po pn pc) = w2 := ⟨_,rfl⟩
 have hT2 := Tt.at_box w1 T.net T.tax T.gross (.slice po pn pc)
 rw [hw2] at b2 hT2
 have hA2 := hA1.below b2
 have HA2 := Lib.hid hA2
 have HF2 := Lib.hid (HF1.out.below b2)
 have hBk2 := (b2.block _ (by have := HUs.out; have := b1.size; omega)).trans hBk1
 have HB2 := Lib.hid b2
 have HU2 : Hid (U.heap.size ≤ w2.heap.size) := Lib.hid (by have := b1.size; have := b2.size; omega)
 have HB12 := Lib.hid (bchain HB1.out b2)
 have d1 : w2.cell? ⟨w.heap.size + 1,1,none⟩ = some (.string r.ser) := by rw [cell_of_row w2 _ 1 _ _ _ hBk2]; rfl
 have d8 : w2.cell? ⟨w.heap.size + 1,8,none⟩ = some (.int .i64 r.y) := by rw [cell_of_row w2 _ 8 _ _ _ hBk2]; rfl
 have d9 : w2.cell? ⟨w.heap.size + 1,9,none⟩ = some (.int .i64 r.m) := by rw [cell_of_row w2 _ 9 _ _ _ hBk2]; rfl
 have d10 : w2.cell? ⟨w.heap.size + 1,10,none⟩ = some (.int .i64 r.d) := by rw [cell_of_row w2 _ 10 _ _ _ hBk2]; rfl
 clear o1 l1 i1 b1 b2 hBk1 hBk2 hA1 x0 x1 x2 x3 x4 x5 c1 c8 c9 c10 c11
 by_cases hE0 : E = 0
 ·
  subst hE0
  go_wp2_with (first | ((with_reducible apply Tt.wpl_new (N := T.net) (X := T.tax) (G := T.gross) (ao := po) (n := pn) (c := pc) (g := w1.heap.size)); rfl; rfl; rfl; rfl; rfl; rfl; rw [hw2]) | ((with_reducible apply Bl.wpl_load hA2); rfl; rfl; rfl) | ((with_reducible apply Tt.wpl_load hT2); rfl; rfl; rfl))
  have hIs : Bl.IsP w2 ⟨r.ser,0,r.y,r.m,r.d,T.net,T.tax,T.gross,⟨po,pn,pc⟩,.empty,0,false⟩ P := by
   rw [HP.out]
   exact ⟨HI.out.ser,rfl,HI.out.y,HI.out.m,HI.out.d,rfl,rfl,rfl,HPl.out.below HB2.out,rfl,rfl,rfl⟩
  have hPt : P.tot = T := by rw [HP.out]
  refine (bil_issue (nw (fun b => P0 b ∧ b < w.heap.size) U) s h ⟨r.ser,0,r.y,r.m,r.d,T.net,T.tax,T.gross,⟨po,pn,pc⟩,.empty,0,false⟩ P w2 ((HL.out.lt.below HB12.out).wide U) (HIl.out.nw _ (Nat.le_refl _)) hIs ⟨HSh.out.2.2.2.1,Bl.fit_0,HSh.out.2.2.2.2.2.2.2.2.2.2.1,HSh.out.2.2.2.2.2.2.2.2.2.2.2.1,HSh.out.2.2.2.2.2.2.2.2.2.2.2.2.1,HTf.out.1,HTf.out.2.1,HTf.out.2.2,by show (0 : Nat) ≤ _; omega,Bl.fit_0⟩ (by show pn ≤ 100; have := HTl.out; omega) (by rw [hPt]; exact (HTr.out trivial).small) HR.out.few HR.out.book_len).mono ?_
  clear hIs hPt
  rintro e w3 ⟨h',rfl,hL3,b3⟩
  have HL3 := Lib.hid hL3
  have HB3 := Lib.hid (bchain HB12.out b3)
  have hF3 := HF2.out.below b3
  have HF3 := Lib.hid hF3
  have hS3 := hF3.st
  have hR3 := hF3.rpS h'
  have HBS2 : Hid (Bl.billS s c = Bl.issS s P) := Lib.hid (by have := HBS.out; simpa using this)
  have HBR2 : Hid (Bl.billR s c = Bl.issR s P) := Lib.hid (by have := HBR.out; simpa using this)
  obtain ⟨q,hq⟩ : ∃ q,Bl.issR s P = q := ⟨_,rfl⟩
  rw [hq] at HBR2 ⊢
  clear hq hL3 b3 hF3 d1 d8 d9 d10 hT2 hw2 hA2
  go_wp2_with (first | ((with_reducible apply Bl.wpl_put (h := h') hS3); rfl; rfl; rfl; rfl) | ((with_reducible apply Rp.wpl_put (r := q) hR3); rfl; rfl; rfl; rfl))
  refine HF3.out.ret Tryz.results105 h' q rfl rfl rfl fun b => ?_
  rw [HBS2.out,HBR2.out]
  exact ⟨_,rfl,((HL3.out.mono (nw_nw (by have := HU2.out; omega))).out2 (w := w) (fun b z => z.2) (by omega) (by have := HUs.out; omega) (by omega) (by have := HUs.out; omega)).mono (fun b z => z.elim (fun y => .inl y.1) .inr),b⟩
 ·
  have hq : (E == 0) = false := beq_eq_false_iff_ne.2 hE0
  go_wp2_with (first | ((with_reducible apply Tt.wpl_new (N := T.net) (X := T.tax) (G := T.gross) (ao := po) (n := pn) (c := pc) (g := w1.heap.size)); rfl; rfl; rfl; rfl; rfl; rfl; rw [hw2]))
  refine Bl.wp_refuse (w.heap.size) (w.heap.size + 1 + 1) (w.heap.size + 1 + 1 + 1) h Bl.zsv ⟨0,0,0⟩ (E) HA2.out HF2.out.st HF2.out.rp (by omega) rfl rfl rfl rfl rfl rfl rfl rfl rfl rfl rfl rfl ?_ ?_ ?_ ?_ ?_ ?_ ?_ ?_ ?_ ?_ ?_
  · kernel_rfl
  · exact fun _ _ _ h => h
  · exact fun _ _ _ h => h
  · rfl
  · rfl
  · rfl
  · rfl
  · rfl
  · rfl
  · rfl
  intro w9 b9
  go_wp2_with fail
  exact (HF2.out.below b9).ret Tryz.results105 h ⟨E,0,0⟩ rfl rfl rfl fun b => by rw [HBS.out,HBR.out,if_neg hE0,if_neg hE0]; exact ⟨_,rfl,(HL.out.below b).wide w,b⟩
end Go.Proofs.YtjpfpojbalepeaaGreat
