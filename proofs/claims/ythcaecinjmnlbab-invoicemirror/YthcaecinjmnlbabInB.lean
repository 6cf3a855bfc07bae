/- CONTRACTS OF PACKAGE invoice: with. -/
import Derived.Test.YthcaecinjmnlbabInA
import Derived.Test.YthcaecinjmnlbabHb
import Derived.Test.YthcaecinjmnlbabRtS
import Derived.Test.YthcaecinjmnlbabHg
set_option linter.unusedVariables false
namespace Go.Proofs.Ythcaecinjmnlbab
open Go.RowKit
open Vt (Rt)
open Go.Sort (grow)

/-- what 'with' answers: the parts' memory taken over, a line entered, or why it can't be -/
def WithE (w : World) (g c : Nat) (x : Ln.T) (bp : Int) (ps : List Pt.T) (e : Ending) (w' : World) : Prop :=
  Below g w w' ∧ ((Mn.err (x.count * x.price) = 0 ∧ Iv.enterE x.category bp (x.count * x.price) ps = 0 ∧ ∃ Z, e = .returned (.tuple #[.slice (some ⟨g, 0, none⟩) (Iv.enter x.category bp (x.count * x.price) ps).length c, .int .i64 0]) ∧ Pt.Block w' g (Iv.enter x.category bp (x.count * x.price) ps ++ Z) ∧ c = (Iv.enter x.category bp (x.count * x.price) ps ++ Z).length) ∨
    ((Mn.err (x.count * x.price) ≠ 0 ∨ Iv.enterE x.category bp (x.count * x.price) ps ≠ 0) ∧ ∃ v, e = .returned (.tuple #[v, .int .i64 7])))
theorem ins_at' {c : ByteArray} {bp : Int} {ps Z : List Pt.T} {s : Nat} (hs : Iv.spot c ps = s) : ∃ h : s < (Iv.ins c bp ps ++ Z).length, (Iv.ins c bp ps ++ Z)[s] = Iv.part c bp ps := by
  have h1 := Iv.ins_lt (c := c) (bp := bp) ps
  have h2 := Iv.ins_at (c := c) (bp := bp) ps
  rw [hs] at h1 h2
  refine ⟨by rw [List.length_append]; omega, ?_⟩
  rw [List.getElem_append_left h1]
  exact Option.some.inj ((List.getElem?_eq_getElem h1).symm.trans h2)
theorem below_put {B g : Nat} {w0 w : World} (h : Below B w0 w) (hg : B ≤ g) (o : Nat) (x : Value) : Below B w0 (w.setCell ⟨g, o, none⟩ x) := h.setCell hg x
/-- what lies behind the place where the part stands -/
theorem with_end {w u : World} {g n c s : Nat} {x : Ln.T} {bp nn : Int} {ps Z : List Pt.T} (hnn : x.count * x.price = nn) (hm : Mn.err nn = 0) (hs : Iv.spot x.category ps = s) (hb : Below g w u) (hB : Pt.Block u g (Iv.ins x.category bp ps ++ Z)) (hc : c = (Iv.ins x.category bp ps ++ Z).length) (hn : n = (Iv.ins x.category bp ps).length) :
    (Mn.err ((Iv.part x.category bp ps).net + nn) = 0 → WithE w g c x bp ps (.returned (.tuple #[.slice (some ⟨g, 0, none⟩) n c, .int .i64 0])) (u.setCell ⟨g, s * 4 + 2, none⟩ (.int .i64 ((Iv.part x.category bp ps).net + nn)))) ∧
    (Mn.err ((Iv.part x.category bp ps).net + nn) = 7 → WithE w g c x bp ps (.returned (.tuple #[.slice (some ⟨g, 0, none⟩) n c, .int .i64 7])) (u.setCell ⟨g, s * 4 + 2, none⟩ (.int .i64 0))) := by
  subst hnn
  obtain ⟨hlt, hat⟩ := ins_at' (c := x.category) (bp := bp) (Z := Z) hs
  have hil := Iv.ins_lt (c := x.category) (bp := bp) ps
  rw [hs] at hil
  have hlen : (Iv.enter x.category bp (x.count * x.price) ps).length = n := by
    unfold Iv.enter
    rw [List.length_set, hn]
  have hen : (Iv.ins x.category bp ps ++ Z).set s (Iv.more (Iv.part x.category bp ps) (x.count * x.price)) = Iv.enter x.category bp (x.count * x.price) ps ++ Z := by
    unfold Iv.enter
    rw [hs, List.set_append_left _ _ hil]
  refine ⟨fun h => ⟨below_put hb (Nat.le_refl _) _ _, .inl ⟨hm, h, Z, by rw [hlen], ?_, by rw [List.length_append, hlen, hc, List.length_append, hn]⟩⟩, fun h => ⟨below_put hb (Nat.le_refl _) _ _, .inr ⟨.inr ?_, _, rfl⟩⟩⟩
  · rw [← hen]
    exact hB.put s 2 hlt (by omega) _ _ (by rw [hat]; rfl)
  · show Mn.err _ ≠ 0
    rw [h]
    omega
set_option maxHeartbeats 4000000 in
theorem inv_with (ps Z : List Pt.T) (z : Pt.T) (x : Ln.T) (bp : Int) (g n c : Nat) (w : World) (hB : Pt.Block w g (ps ++ z :: Z)) (hn : n = ps.length) (hc : c = (ps ++ z :: Z).length) (hc1 : c ≤ 1000) (hx : Ln.Short x) (hb : Fit bp) (hs : ∀ r ∈ ps, Pt.Short r) :
    Calls Try.prog 14 #[.slice (some ⟨g, 0, none⟩) n c, Ln.val x, .int .i64 bp] w (WithE w g c x bp ps) := by
  obtain ⟨W, hW, hbW, hC⟩ := Ln.boxed1 w x
  have HG := Lib.hid hB.lt
  have HB := Lib.hid (hB.below hbW)
  have HL := Lib.hid (HB.out.ls n c hn (by rw [hc, List.length_append]; omega) (by omega) hs)
  have HBel : Hid (Below g w W) := Lib.hid (hbW.mono (Nat.le_of_lt hB.lt))
  have HC := Lib.hid hC
  have HX := Lib.hid hx
  have HS := Lib.hid hs
  have HN := Lib.hid hn
  have HCc := Lib.hid hc
  have HBp := Lib.hid hb
  have hnc : n + 1 ≤ c := by rw [hc, List.length_append, List.length_cons]; omega
  unfold Ln.C at hC
  obtain ⟨a0, a1, a2, a3⟩ := hC
  have HsW : Hid (W.heap.size = w.heap.size + 1) := Lib.hid (by rw [← hW]; simp)
  obtain ⟨nn, hnn⟩ : ∃ nn, x.count * x.price = nn := ⟨_, rfl⟩
  have HNN := Lib.hid hnn
  clear hB hbW hx hs hn hc hb
  unfold Ln.val
  go_enter Try.func14, Try.ntmps14
  go_wp2_with fail
  refine (mul_any x.count x.price _ HX.out.2.2.1 HX.out.2.2.2).mono ?_
  rintro e w1 ⟨rfl, hw1⟩
  subst hw1
  unfold both
  rw [hnn]
  rcases Mn.err_two nn with e1 | e1
  · rw [e1, Mn.amt_fit (Iv.err_0 e1)]
    have HE1 := Lib.hid e1
    have HF := Lib.hid (Iv.err_0 e1)
    clear e1 hnn
    go_wp2_with fail
    refine (inv_place ps x.category _ n c _ HL.out).mono ?_
    rintro e w1 ⟨rfl, hw1⟩
    subst hw1
    obtain ⟨s, hsp⟩ : ∃ s, Iv.spot x.category ps = s := ⟨_, rfl⟩
    have hsn : s ≤ n := by rw [HN.out, ← hsp]; exact Iv.spot_le _ _
    have HSp := Lib.hid hsp
    rw [hsp]
    have l0 := cell_regrown a0
    have l1 := cell_regrown a1
    have l2 := cell_regrown a2
    have l3 := cell_regrown a3
    have HPS : Hid (Pt.Short (Iv.part x.category bp ps)) := Lib.hid (part_short HX.out.2.1 HBp.out HS.out)
    clear hW hsp
    by_cases hlt : s < n
    · have hsl : s < ps.length := HN.out ▸ hlt
      have hrow := HB.out.row s (by rw [List.length_append]; omega)
      rw [List.getElem_append_left hsl] at hrow
      obtain ⟨q, hq⟩ : ∃ q, ps[s] = q := ⟨_, rfl⟩
      rw [hq] at hrow
      have HQ := Lib.hid hq
      obtain ⟨g0, g1, g2, g3⟩ := hrow
      have k0 := cell_regrown g0
      have k1 := cell_regrown g1
      have k2 := cell_regrown g2
      have k3 := cell_regrown g3
      have hne1 : ((s : Int) == (n : Int)) = false := by simp; omega
      clear hq
      by_cases hcat : q.cat = x.category
      · have HH : Hid (Iv.has x.category ps = true) := Lib.hid (by rw [Iv.has_spot, HSp.out, List.getElem?_eq_getElem hsl, HQ.out]; exact decide_eq_true hcat)
        have hqe : (q.cat.toList == x.category.toList) = true := beq_iff_eq.2 (by rw [hcat])
        have HI : Hid (Iv.ins x.category bp ps = ps) := Lib.hid (Iv.ins_has HH.out)
        clear hcat
        go_wp2
        refine wp_region_quiet_below (by kernel_rfl) (by kernel_rfl) ?_
        repeat (first | go_big_quiet_step (fail) | quiet_step (fail))
        refine wpQuiet_nil ?_
        intro _ hw'
        obtain ⟨⟨dq, osq⟩, hw''⟩ := hw'
        subst hw''
        have HBx := Lib.hid (HBel.out.trans ((below_regrown w1 dq osq).mono (by have := HG.out; have := HsW.out; omega)))
        have HBk := Lib.hid (HB.out.below (below_regrown w1 dq osq))
        clear l0 l1 l2 l3 a0 a1 a2 a3 k0 k1 k2 k3 g0 g1 g2 g3 hqe
        generalize grow (redrawn w1 dq) osq = u at *
        obtain ⟨hlt2, hat2⟩ := ins_at' (c := x.category) (bp := bp) (Z := z :: Z) HSp.out
        have HEn := Lib.hid (with_end (n := n) (c := c) HNN.out HE1.out HSp.out HBx.out (by rw [HI.out]; exact HBk.out) (by rw [HI.out]; exact HCc.out) (by rw [HI.out]; exact HN.out))
        have hrow := HBk.out.row s (by rw [List.length_append]; omega)
        have hpp : (ps ++ z :: Z)[s]'(by rw [List.length_append]; omega) = Iv.part x.category bp ps := by
          have h2 := hat2
          simp only [HI.out] at h2
          exact h2
        rw [hpp] at hrow
        have hfz := HBk.out.frozen (s * 4 + 2)
        obtain ⟨p, hp⟩ : ∃ p, Iv.part x.category bp ps = p := ⟨_, rfl⟩
        rw [hp] at hrow HEn HPS
        obtain ⟨g0, g1, g2, g3⟩ := hrow
        clear hp hpp hat2 hlt2
        go_wp2_with fail
        refine (add_any p.net nn _ HPS.out.2.2.1 HF.out).mono ?_
        rintro e w2 ⟨rfl, hw2⟩
        subst hw2
        unfold both
        rcases Mn.err_two (p.net + nn) with e2 | e2
        · rw [e2, Mn.amt_fit (Iv.err_0 e2)]
          have HR := Lib.hid (HEn.out.1 e2)
          clear e2
          go_wp2_with fail
          go_ret2
          exact HR.out
        · rw [e2, Mn.amt_not (err_7 e2)]
          have HR := Lib.hid (HEn.out.2 e2)
          clear e2
          go_wp2_with fail
          go_ret2
          exact HR.out
      · have HH : Hid (Iv.has x.category ps = false) := Lib.hid (by rw [Iv.has_spot, HSp.out, List.getElem?_eq_getElem hsl, HQ.out]; exact decide_eq_false hcat)
        have hqe : (q.cat.toList == x.category.toList) = false := beq_eq_false_iff_ne.2 fun e => hcat (Vt.cat_ext e)
        clear hcat
        have HI : Hid (Iv.ins x.category bp ps = ps.take s ++ ⟨x.category, bp, 0, 0⟩ :: ps.drop s) := Lib.hid (by rw [Iv.ins_new HH.out, HSp.out])
        go_wp2
        refine wp_region_quiet_below (by kernel_rfl) (by kernel_rfl) ?_
        repeat (first | go_big_quiet_step (fail) | quiet_step (fail))
        refine wpQuiet_nil ?_
        intro _ hw'
        obtain ⟨⟨dq, osq⟩, hw''⟩ := hw'
        subst hw''
        have HBx := Lib.hid (HBel.out.trans ((below_regrown w1 dq osq).mono (by have := HG.out; have := HsW.out; omega)))
        have HBk := Lib.hid (HB.out.below (below_regrown w1 dq osq))
        have hC := HC.out.below (below_regrown w1 dq osq)
        unfold Ln.C at hC
        clear l0 l1 l2 l3 a0 a1 a2 a3 k0 k1 k2 k3 g0 g1 g2 g3 hqe
        obtain ⟨a0, a1, a2, a3⟩ := hC
        generalize grow (redrawn w1 dq) osq = u at *
        go_wp2_with fail
        have hbu : Below u.heap.size u (u.alloc (Pt.block ⟨x.category, bp, 0, 0⟩)) := (Below.refl _ _).alloc (Nat.le_refl _) _
        refine (Pt.insert_mid _ g c u.heap.size n s ps Z z ⟨x.category, bp, 0, 0⟩ (HBk.out.below hbu) HN.out HCc.out hc1 (heap_alloc_new u _) (Nat.ne_of_gt HBk.out.lt) hlt).mono ?_
        rintro e w2 ⟨rfl, hB2, hb2⟩
        have HBy := Lib.hid (hb2 g w (HBx.out.trans (hbu.mono (Nat.le_of_lt HBk.out.lt))) (Nat.le_refl _))
        have HBl : Hid (Pt.Block w2 g (Iv.ins x.category bp ps ++ Z)) := Lib.hid (by rw [HI.out]; exact hB2)
        clear hB2 hb2 hbu a0 a1 a2 a3
        obtain ⟨hlt2, hat2⟩ := ins_at' (c := x.category) (bp := bp) (Z := Z) HSp.out
        have hlen : (Iv.ins x.category bp ps).length = n + 1 := by
          rw [HI.out, List.length_append, List.length_cons, List.length_take, List.length_drop, ← HN.out]
          omega
        have HEn := Lib.hid (with_end (n := n + 1) (c := c) HNN.out HE1.out HSp.out HBy.out HBl.out (by have := HCc.out; rw [List.length_append, List.length_cons, ← HN.out] at this; rw [List.length_append, hlen]; omega) hlen.symm)
        have hrow := HBl.out.row s hlt2
        rw [hat2] at hrow
        have hfz := HBl.out.frozen (s * 4 + 2)
        obtain ⟨p, hp⟩ : ∃ p, Iv.part x.category bp ps = p := ⟨_, rfl⟩
        rw [hp] at hrow HEn HPS
        obtain ⟨g0, g1, g2, g3⟩ := hrow
        clear hp hat2 hlt2 hlen
        go_wp2_with fail
        refine (add_any p.net nn _ HPS.out.2.2.1 HF.out).mono ?_
        rintro e w3 ⟨rfl, hw3⟩
        subst hw3
        unfold both
        rcases Mn.err_two (p.net + nn) with e2 | e2
        · rw [e2, Mn.amt_fit (Iv.err_0 e2)]
          have HR := Lib.hid (HEn.out.1 e2)
          clear e2
          go_wp2_with fail
          go_ret2
          exact HR.out
        · rw [e2, Mn.amt_not (err_7 e2)]
          have HR := Lib.hid (HEn.out.2 e2)
          clear e2
          go_wp2_with fail
          go_ret2
          exact HR.out
    · obtain rfl : n = s := by omega
      have HH : Hid (Iv.has x.category ps = false) := Lib.hid (by rw [Iv.has_spot, HSp.out, List.getElem?_eq_none (by rw [← HN.out]; omega)])
      have HI : Hid (Iv.ins x.category bp ps = ps.take n ++ ⟨x.category, bp, 0, 0⟩ :: ps.drop n) := Lib.hid (by rw [Iv.ins_new HH.out, HSp.out])
      go_wp2
      refine wp_region_quiet_below (by kernel_rfl) (by kernel_rfl) ?_
      repeat (first | go_big_quiet_step (fail) | quiet_step (fail))
      refine wpQuiet_nil ?_
      intro _ hw'
      obtain ⟨⟨dq, osq⟩, hw''⟩ := hw'
      subst hw''
      have HBx := Lib.hid (HBel.out.trans ((below_regrown w1 dq osq).mono (by have := HG.out; have := HsW.out; omega)))
      have HBk := Lib.hid (HB.out.below (below_regrown w1 dq osq))
      have hC := HC.out.below (below_regrown w1 dq osq)
      unfold Ln.C at hC
      clear l0 l1 l2 l3 a0 a1 a2 a3
      obtain ⟨a0, a1, a2, a3⟩ := hC
      generalize grow (redrawn w1 dq) osq = u at *
      go_wp2_with fail
      have hbu : Below u.heap.size u (u.alloc (Pt.block ⟨x.category, bp, 0, 0⟩)) := (Below.refl _ _).alloc (Nat.le_refl _) _
      refine (Pt.insert_end _ g c u.heap.size n ps Z z ⟨x.category, bp, 0, 0⟩ (HBk.out.below hbu) HN.out HCc.out hc1 (heap_alloc_new u _)).mono ?_
      rintro e w2 ⟨rfl, hB2, hb2⟩
      have HBy := Lib.hid (hb2 g w (HBx.out.trans (hbu.mono (Nat.le_of_lt HBk.out.lt))) (Nat.le_refl _))
      have HBl : Hid (Pt.Block w2 g (Iv.ins x.category bp ps ++ Z)) := Lib.hid (by rw [HI.out, HN.out, List.take_length, List.drop_length]; exact hB2)
      clear hB2 hb2 hbu a0 a1 a2 a3
      obtain ⟨hlt2, hat2⟩ := ins_at' (c := x.category) (bp := bp) (Z := Z) HSp.out
      have hlen : (Iv.ins x.category bp ps).length = n + 1 := by
        rw [HI.out, List.length_append, List.length_cons, List.length_take, List.length_drop, ← HN.out]
        omega
      have HEn := Lib.hid (with_end (n := n + 1) (c := c) HNN.out HE1.out HSp.out HBy.out HBl.out (by have := HCc.out; rw [List.length_append, List.length_cons, ← HN.out] at this; rw [List.length_append, hlen]; omega) hlen.symm)
      have hrow := HBl.out.row n hlt2
      rw [hat2] at hrow
      have hfz := HBl.out.frozen (n * 4 + 2)
      obtain ⟨p, hp⟩ : ∃ p, Iv.part x.category bp ps = p := ⟨_, rfl⟩
      rw [hp] at hrow HEn HPS
      obtain ⟨g0, g1, g2, g3⟩ := hrow
      clear hp hat2 hlt2 hlen
      go_wp2_with fail
      refine (add_any p.net nn _ HPS.out.2.2.1 HF.out).mono ?_
      rintro e w3 ⟨rfl, hw3⟩
      subst hw3
      unfold both
      rcases Mn.err_two (p.net + nn) with e2 | e2
      · rw [e2, Mn.amt_fit (Iv.err_0 e2)]
        have HR := Lib.hid (HEn.out.1 e2)
        clear e2
        go_wp2_with fail
        go_ret2
        exact HR.out
      · rw [e2, Mn.amt_not (err_7 e2)]
        have HR := Lib.hid (HEn.out.2 e2)
        clear e2
        go_wp2_with fail
        go_ret2
        exact HR.out
  · have HR : Hid (WithE w g c x bp ps (.returned (.tuple #[.slice none 0 0, .int .i64 7])) w1) := Lib.hid ⟨HBel.out, .inr ⟨.inl (by rw [HNN.out, e1]; omega), _, rfl⟩⟩
    rw [e1]
    clear e1 hnn
    go_wp2_with fail
    go_ret2
    exact HR.out
end Go.Proofs.Ythcaecinjmnlbab
