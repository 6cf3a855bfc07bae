/- THE WALK OF SeriesTells. (By genstells.py.) -/
import Derived.Test.YtemifminohdhbaaSeRn
import Derived.Test.YtemifminohdhbaaRsS
import Derived.Test.YtemifminohdhbaaSrR
set_option maxRecDepth 100000
namespace Go.Proofs.Ytemifminohdhbaa
open Go.RowKit
open Mem
open Go.Sort (grow)

def markS : Sr.T := ⟨⟨#[]⟩, -5, 0, false⟩
theorem short_mark : Sr.Short markS := short_lit (by decide) rfl rfl
namespace Sr
/-- rows that may be written lie between two ends of memory -/
def Blk (u : World) (B C : Nat) (ao : Option Addr) (n : Nat) : Prop := 0 < n → ∃ g cur, ao = some ⟨g, 0, none⟩ ∧ B ≤ g ∧ g < C ∧ u.heap[g]? = some (.cells cur 32 (0, 0)) ∧ n * 4 ≤ cur.size
theorem own_blk {w : World} {B C : Nat} {ao : Option Addr} {n cap : Nat} {xs : List T} (h : Own w B (.slice ao n cap) xs) (hn : n = xs.length) (hC : w.heap.size ≤ C) : Blk w B C ao n := by
  intro h0
  rcases h.2 with ⟨h', h2⟩ | ⟨g, c, cur, h', hb, hg, hnc, _, hcs, _⟩
  · omega
  · simp only [Value.slice.injEq] at h'
    obtain ⟨e1, e2, e3⟩ := h'
    have hl : g < w.heap.size := by
      obtain ⟨hl, _⟩ := Array.getElem?_eq_some_iff.1 hg
      exact hl
    exact ⟨g, cur, e1, hb, by omega, hg, by rw [hcs]; exact Nat.mul_le_mul_right 4 (by omega)⟩
theorem Blk.below {u v : World} {B C D n : Nat} {ao : Option Addr} (h : Blk u B C ao n) (k : Below u.heap.size u v) (hD : C ≤ D) : Blk v B D ao n := by
  intro h0
  obtain ⟨g, cur, e, hb, hc, hg, hs⟩ := h h0
  have hl : g < u.heap.size := by
    obtain ⟨hl, _⟩ := Array.getElem?_eq_some_iff.1 hg
    exact hl
  exact ⟨g, cur, e, hb, by omega, (k.block g hl).trans hg, hs⟩
theorem Blk.set {u : World} {B C n : Nat} {ao : Option Addr} (h : Blk u B C ao n) (b o : Nat) (x : Value) : Blk (u.setCell ⟨b, o, none⟩ x) B C ao n := by
  intro h0
  obtain ⟨g, cur, e, hb, hc, hg, hs⟩ := h h0
  by_cases he : b = g
  · subst he
    exact ⟨b, _, e, hb, hc, heap_setCell_same u b o _ _ x hg, by simpa using hs⟩
  · exact ⟨g, cur, e, hb, hc, by rw [heap_setCell_other u ⟨b, o, none⟩ _ x (fun k => he k.symm)]; exact hg, hs⟩
theorem C.far {u : World} {b g : Nat} {r : T} (h : C u b r) (hne : g ≠ b) (o : Nat) (x : Value) : C (u.setCell ⟨g, o, none⟩ x) b r := by
  unfold C at *
  rw [World.cell?_setCell_far u _ _ x hne, World.cell?_setCell_far u _ _ x hne, World.cell?_setCell_far u _ _ x hne, World.cell?_setCell_far u _ _ x hne]
  exact h
theorem Block.c {w : World} {g : Nat} {r : T} (h : Block w g [r]) : C w g r := by
  have hr := h.row 0 (by simp)
  simp only [Nat.zero_mul] at hr
  exact ⟨hr.c0, hr.c1, hr.c2, hr.c3⟩
theorem block_box (w : World) (r : T) : Block (box w r) w.heap.size [r] := heap_alloc_new w _
end Sr
theorem own_cons_yes {r : Sr.T} {l : List Sr.T} {s : ByteArray} (h : r.name = s) : Se.own (r :: l) s = r ∧ decide (Se.ix s (r :: l) < (r :: l).length) = true := by
  have h0 : Se.ix s (r :: l) = 0 := if_pos h
  refine ⟨?_, ?_⟩
  · unfold Se.own
    rw [h0]
    rfl
  · rw [h0, decide_eq_true_iff]
    simp
theorem own_cons_no {r : Sr.T} {l : List Sr.T} {s : ByteArray} (h : r.name ≠ s) : Se.own (r :: l) s = Se.own l s ∧ decide (Se.ix s (r :: l) < (r :: l).length) = decide (Se.ix s l < l.length) := by
  have h0 : Se.ix s (r :: l) = Se.ix s l + 1 := if_neg h
  refine ⟨?_, ?_⟩
  · unfold Se.own
    rw [h0]
    rfl
  · rw [h0]
    simp
theorem open_short {L : List Sr.T} {s : ByteArray} {m : Int} (hL : ∀ r ∈ L, Sr.Short r) (hs : s.size ≤ 140737488355328) (hm : Fit m) : ∀ r ∈ Se.openR L s m, Sr.Short r := by
  intro r hr
  unfold Se.openR at hr
  split at hr
  · rcases Se.openL_mem.1 hr with rfl | hr
    · exact ⟨hs, fit_lit rfl, hm⟩
    · exact hL r hr
  · cases hr
theorem shut_short {L : List Sr.T} {s : ByteArray} (hL : ∀ r ∈ L, Sr.Short r) : ∀ r ∈ Se.shutR L s, Sr.Short r := by
  intro r hr
  unfold Se.shutR at hr
  split at hr
  · rename_i h
    rcases Se.set_mem (Se.un_0 h).2.1 r hr with rfl | hr
    · have := hL _ (Se.own_mem (Se.un_0 h).2.1)
      exact ⟨this.1, this.2.1, this.2.2⟩
    · exact hL r hr
  · cases hr
theorem take_short {L : List Sr.T} {s : ByteArray} (hL : ∀ r ∈ L, Sr.Short r) : ∀ r ∈ Se.takeR L s, Sr.Short r := by
  intro r hr
  by_cases h : Se.unE L s = 0
  · by_cases k : (Se.own L s).limit < (Se.own L s).next
    · rw [(Se.take_full h k).2.2] at hr
      cases hr
    · rw [(Se.take_ok h k).2.2] at hr
      obtain ⟨h1, h2, h3⟩ := Se.un_0 h
      rcases Se.set_mem h2 r hr with rfl | hr
      · have := hL _ (Se.own_mem h2)
        obtain ⟨k1, k2, k3, k4⟩ := Se.sound_iff.1 (((Se.right_iff L).1 h1).2.1 _ (Se.own_mem h2))
        have k5 := Se.lim_iff.1 k2
        refine ⟨this.1, ?_, this.2.2⟩
        show -9223372036854775808 ≤ (Se.own L s).next + 1 ∧ (Se.own L s).next + 1 ≤ 9223372036854775807
        omega
      · exact hL r hr
  · rw [(Se.take_un h).2.2] at hr
    cases hr
set_option maxHeartbeats 4000000 in
theorem seriesTells_walk (rs : List Sr.T) (ao : Option Addr) (n cap : Nat) (s : ByteArray) (m : Int) (w : World) (hR : Sr.Ls w ao n cap rs) (hs0 : s.data.toList.length ≤ reachBytes) (hm : (Lit.int .i64 m).wf = true) :
    Calls Try.prog 4 #[.slice ao n cap, .string s, .int .i64 m] w fun e w' => e = .returned (.bool true) ∧ Below w.heap.size w w' := by
  have HR := Lib.hid hR
  have HS := Lib.hid (fits hs0)
  have HM := Lib.hid (fit_in hm)
  clear hR hs0 hm
  go_enter Try.func4, Try.ntmps4
  go_wp2_with fail
  refine (few_any rs ao n cap _ HR.out).mono ?_
  rintro e w1 ⟨⟨k, rfl, hL, hk⟩, hw1⟩
  subst hw1
  have HL := Lib.hid hL
  clear hL HR
  obtain ⟨L, hLL⟩ : ∃ L, rs.take 20 = L := ⟨_, rfl⟩
  rw [hLL] at HL
  clear hLL
  have hcap := HL.out.reach
  have hfit := HL.out.fits
  go_wp2_with fail
  refine (Sr.roomy L markS ao k cap (Sr.box w1 markS) (HL.out.below (Sr.below_own w1 markS)) (by omega)).mono ?_
  rintro e w2 ⟨rfl, hB2, b2⟩
  have HBk := Lib.hid hB2
  have hFull := Sr.full_ls hB2 HL.out.len (by omega) HL.out.short short_mark
  obtain ⟨hs1, hO⟩ := hFull.to k (by omega)
  rw [List.take_left' HL.out.len.symm] at hO
  have HO := Lib.hid hO
  have HC := Lib.hid ((Sr.c_box w1 markS).below b2)
  have HBw := Lib.hid (bchain (Sr.below_own w1 markS) b2)
  replace HL := Lib.hid (HL.out.below HBw.out)
  clear hB2 hFull hO b2
  generalize (Sr.box w1 markS).heap.size + 1 = g at *
  obtain ⟨E1, hE1⟩ : ∃ e, Se.openE L s m = e := ⟨_, rfl⟩
  obtain ⟨E2, hE2⟩ : ∃ e, Se.unE L s = e := ⟨_, rfl⟩
  obtain ⟨E3, hE3⟩ : ∃ e, Se.takeE L s = e := ⟨_, rfl⟩
  obtain ⟨N3, hN3⟩ : ∃ e, Se.takeN L s = e := ⟨_, rfl⟩
  have HE1 := Lib.hid hE1
  have HE2 := Lib.hid hE2
  have HE3 := Lib.hid hE3
  have HN3 := Lib.hid hN3
  clear hE1 hE2 hE3 hN3
  have HP1 : Hid (∃ P, Se.openR L s m = P ∧ ∀ r ∈ P, Sr.Short r) := ⟨_, rfl, open_short HL.out.short HS.out HM.out⟩
  obtain ⟨P1, hP1, hQ1⟩ := HP1.out
  have HP2 : Hid (∃ P, Se.shutR L s = P ∧ ∀ r ∈ P, Sr.Short r) := ⟨_, rfl, shut_short HL.out.short⟩
  obtain ⟨P2, hP2, hQ2⟩ := HP2.out
  have HP3 : Hid (∃ P, Se.takeR L s = P ∧ ∀ r ∈ P, Sr.Short r) := ⟨_, rfl, take_short HL.out.short⟩
  obtain ⟨P3, hP3, hQ3⟩ := HP3.out
  clear HP1 HP2 HP3
  replace hP1 := Lib.hid hP1
  replace hP2 := Lib.hid hP2
  replace hP3 := Lib.hid hP3
  replace hQ1 := Lib.hid hQ1
  replace hQ2 := Lib.hid hQ2
  replace hQ3 := Lib.hid hQ3
  go_wp2_with fail
  refine (ser_open L s m (some ⟨g, 0, none⟩) k (k + 80) _ HO.out HS.out).mono ?_
  rintro e u0 ⟨v, rfl, o, b⟩
  rw [HE1.out]
  rw [hP1.out] at o
  have HT0 := Lib.hid (b)
  obtain ⟨ao1, ac, rfl, hL, _⟩ := Sr.own_ls o hQ1.out
  have af := hL.fits
  have ar := hL.reach
  have HLa := Lib.hid hL
  have HKa := Lib.hid (Sr.own_blk (C := u0.heap.size) (Sr.own_mono o (Nat.le_refl _)) rfl (Nat.le_refl _))
  clear hL o b
  go_wp2_with fail
  refine (ser_shut L s (some ⟨g, 0, none⟩) k (k + 80) _ (HO.out.below HT0.out)).mono ?_
  rintro e u1 ⟨v, rfl, o, b⟩
  rw [HE2.out]
  rw [hP2.out] at o
  have HT1 := Lib.hid (bchain HT0.out b)
  replace HLa := Lib.hid (HLa.out.below b)
  replace HKa := Lib.hid (HKa.out.below b b.size)
  obtain ⟨bo, bc, rfl, hL, _⟩ := Sr.own_ls o hQ2.out
  have bf := hL.fits
  have br := hL.reach
  have HLb := Lib.hid hL
  clear hL o b
  go_wp2_with fail
  refine (ser_take L s (some ⟨g, 0, none⟩) k (k + 80) _ (HO.out.below HT1.out)).mono ?_
  rintro e u2 ⟨v, rfl, o, b⟩
  rw [HE3.out, HN3.out]
  rw [hP3.out] at o
  have HT2 := Lib.hid (bchain HT1.out b)
  replace HLa := Lib.hid (HLa.out.below b)
  replace HLb := Lib.hid (HLb.out.below b)
  replace HKa := Lib.hid (HKa.out.below b b.size)
  obtain ⟨co, cc, rfl, hL, _⟩ := Sr.own_ls o hQ3.out
  have cf := hL.fits
  have cr := hL.reach
  have HLc := Lib.hid hL
  have HKc := Lib.hid (Sr.own_blk (C := u2.heap.size) (Sr.own_mono o HT1.out.size) rfl (Nat.le_refl _))
  clear hL o b
  go_wp2_with fail
  refine (rser_open L s m ao k cap _ (HL.out.below HT2.out) HS.out).mono ?_
  rintro e u3 ⟨v, rfl, o, b⟩
  rw [HE1.out]
  rw [hP1.out] at o
  have HT3 := Lib.hid (bchain HT2.out b)
  replace HLa := Lib.hid (HLa.out.below b)
  replace HLb := Lib.hid (HLb.out.below b)
  replace HLc := Lib.hid (HLc.out.below b)
  replace HKa := Lib.hid (HKa.out.below b b.size)
  replace HKc := Lib.hid (HKc.out.below b b.size)
  obtain ⟨uo, uc, rfl, hL, _⟩ := Sr.own_ls o hQ1.out
  have uf := hL.fits
  have ur := hL.reach
  have HLu := Lib.hid hL
  clear hL o b
  go_wp2_with fail
  refine (rser_shut L s ao k cap _ (HL.out.below HT3.out)).mono ?_
  rintro e u4 ⟨v, rfl, o, b⟩
  rw [HE2.out]
  rw [hP2.out] at o
  have HT4 := Lib.hid (bchain HT3.out b)
  replace HLa := Lib.hid (HLa.out.below b)
  replace HLb := Lib.hid (HLb.out.below b)
  replace HLc := Lib.hid (HLc.out.below b)
  replace HLu := Lib.hid (HLu.out.below b)
  replace HKa := Lib.hid (HKa.out.below b b.size)
  replace HKc := Lib.hid (HKc.out.below b b.size)
  obtain ⟨vo, vc, rfl, hL, _⟩ := Sr.own_ls o hQ2.out
  have vf := hL.fits
  have vr := hL.reach
  have HLv := Lib.hid hL
  clear hL o b
  go_wp2_with fail
  refine (rser_take L s ao k cap _ (HL.out.below HT4.out)).mono ?_
  rintro e u5 ⟨v, rfl, o, b⟩
  rw [HE3.out, HN3.out]
  rw [hP3.out] at o
  have HT5 := Lib.hid (bchain HT4.out b)
  replace HLa := Lib.hid (HLa.out.below b)
  replace HLb := Lib.hid (HLb.out.below b)
  replace HLc := Lib.hid (HLc.out.below b)
  replace HLu := Lib.hid (HLu.out.below b)
  replace HLv := Lib.hid (HLv.out.below b)
  replace HKa := Lib.hid (HKa.out.below b b.size)
  replace HKc := Lib.hid (HKc.out.below b b.size)
  obtain ⟨xo, xc, rfl, hL, _⟩ := Sr.own_ls o hQ3.out
  have xf := hL.fits
  have xr := hL.reach
  have HLx := Lib.hid hL
  clear hL o b
  generalize P1.length = p1 at *
  generalize P2.length = p2 at *
  generalize P3.length = p3 at *
  have q1 : (E1 != E1) = false := bne_self_eq_false _
  have q2 : (E2 != E2) = false := bne_self_eq_false _
  have q3 : (E3 != E3) = false := bne_self_eq_false _
  have q4 : (N3 != N3) = false := bne_self_eq_false _
  go_wp2_with fail
  refine (Sr.same_rows P1 ao1 uo p1 ac uc u5 _ (Below.refl _ _) HLa.out HLu.out).mono ?_
  rintro e y1 ⟨rfl, c1⟩
  have HY1 := Lib.hid c1
  clear c1
  go_wp2_with fail
  refine (Sr.same_rows P2 bo vo p2 bc vc u5 _ HY1.out (HLb.out.below HY1.out) (HLv.out.below HY1.out)).mono ?_
  rintro e y2 ⟨rfl, c2⟩
  have HY2 := Lib.hid c2
  clear c2
  go_wp2_with fail
  refine (Sr.same_rows P3 co xo p3 cc xc u5 _ HY2.out (HLc.out.below HY2.out) (HLx.out.below HY2.out)).mono ?_
  rintro e y3 ⟨rfl, c3⟩
  have HY3 := Lib.hid c3
  clear c3
  go_wp2_with fail
  refine (ser_right L (some ⟨g, 0, none⟩) k (k + 80) u5 _ HY3.out ((HO.out.below HT5.out).below HY3.out)).mono ?_
  rintro e y4 ⟨rfl, c4⟩
  have HY4 := Lib.hid c4
  clear c4
  go_wp2_with fail
  refine (rser_right L ao k cap u5 _ HY4.out ((HL.out.below HT5.out).below HY4.out)).mono ?_
  rintro e y5 ⟨rfl, c5⟩
  have HY5 := Lib.hid c5
  replace HKa := Lib.hid (HKa.out.below c5 c5.size)
  replace HKc := Lib.hid (HKc.out.below c5 c5.size)
  have HZ := Lib.hid (bchain HT5.out c5)
  clear c5 HLa HLb HLc HLu HLv HLx HY1 HY2 HY3 HY4
  have q5 : (Se.rightB L != Se.rightB L) = false := bne_self_eq_false _
  generalize Se.rightB L = rb at *
  have HLw := Lib.hid HL.out
  replace HL := Lib.hid (HL.out.below HZ.out)
  replace HO := Lib.hid (HO.out.below HZ.out)
  clear HY5 HT0 HT1 HT2 HT3 HT4 HT5
  have HLn := Lib.hid HL.out.len
  go_wp2_with fail
  go_loopw [25, 26] (fun b i wr => ∃ (j : Nat) (q : Sr.T) (f : Bool), j ≤ k ∧ i = .int .i64 ((j : Int) - 1) ∧ b = .bool f ∧ Hid (q = Se.own (L.drop j) s ∧ f = decide (Se.ix s (L.drop j) < (L.drop j).length)) ∧ Hid (Sr.Block wr y5.heap.size [q]) ∧ Hid (Below y5.heap.size y5 wr)) (fun _ i _ => (intOf i + 1).toNat)
  case atStart => exact ⟨k, Sr.zero, false, Nat.le_refl _, rfl, rfl, Lib.hid (by rw [List.drop_eq_nil_of_le (Nat.le_of_eq HLn.out.symm)]; exact ⟨rfl, rfl⟩), Lib.hid (Sr.block_box y5 Sr.zero), Lib.hid (Sr.below_own y5 Sr.zero)⟩
  case round =>
    rename World => wz
    obtain ⟨j, q, f, hj, rfl, rfl, HQ, HBq, HB⟩ := hrel
    by_cases hj0 : j = 0
    · subst hj0
      rw [List.drop_zero] at HQ
      go_wp2_with fail
      refine (ser_find L s (some ⟨g, 0, none⟩) k (k + 80) wz _ (Below.refl _ _) (HO.out.below HB.out)).mono ?_
      rintro e w3 ⟨rfl, b3⟩
      rw [← HQ.out.1, ← HQ.out.2]
      unfold Sr.val
      have HCw := Lib.hid ((HBq.out.c.below b3).below (Sr.below_own w3 q))
      have HCx := Lib.hid (Sr.c_box w3 q)
      have HB3 := Lib.hid (bchain (bchain HB.out b3) (Sr.below_own w3 q))
      have HGx : Hid (y5.heap.size ≤ w3.heap.size) := Lib.hid (bchain HB.out b3).size
      have HA1 := Lib.hid (HKa.out.below HB3.out (Nat.le_refl _))
      have HA3 := Lib.hid (HKc.out.below HB3.out (Nat.le_refl _))
      have HB4 := Lib.hid (bchain HZ.out HB3.out)
      clear b3 HQ HBq HKa HKc
      go_wp2_with fail
      rw [show w3.alloc (.cells #[.string q.name, .int .i64 q.next, .int .i64 q.limit, .bool q.shut] 32) = Sr.box w3 q from rfl]
      generalize Sr.box w3 q = u at *
      generalize w3.heap.size = gx at *
      generalize y5.heap.size = gw at *
      go_loopw [29] (fun i wr => ∃ j : Nat, j ≤ p1 ∧ i = .int .i64 j ∧ Hid (Below w2.heap.size w2 wr) ∧ Hid (Sr.Blk wr w2.heap.size gw ao1 p1) ∧ Hid (Sr.Blk wr w2.heap.size gw co p3) ∧ Hid (Sr.C wr gw q) ∧ Hid (Sr.C wr gx q)) (fun i _ => p1 - (intOf i).toNat)
      case atStart => exact ⟨0, by omega, rfl, HB4, HA1, HA3, HCw, HCx⟩
      case round =>
        rename World => wz
        obtain ⟨j, hj, rfl, HB, HA1, HA3, HCw, HCx⟩ := hrel
        by_cases hlt : j < p1
        · obtain ⟨gm, cur, rfl, hgm, hgM, hcur, hsz⟩ := HA1.out (by omega)
          have hcell : ∀ p, p < 4 → ∃ old, wz.cell? ⟨gm, j * 4 + p, none⟩ = some old := fun p hp => ⟨cur[j * 4 + p]'(by omega), by rw [cell_of_row wz gm _ _ _ _ hcur]; simp⟩
          obtain ⟨o0, e0⟩ := hcell 0 (by omega)
          obtain ⟨o1, e1⟩ := hcell 1 (by omega)
          obtain ⟨o2, e2⟩ := hcell 2 (by omega)
          obtain ⟨o3, e3⟩ := hcell 3 (by omega)
          rw [Nat.add_zero] at e0
          have z0 : wz.frozen? ⟨gm, j * 4, none⟩ = false := frozen_of_row wz gm _ _ _ hcur
          have z1 : wz.frozen? ⟨gm, j * 4 + 1, none⟩ = false := frozen_of_row wz gm _ _ _ hcur
          have z2 : wz.frozen? ⟨gm, j * 4 + 2, none⟩ = false := frozen_of_row wz gm _ _ _ hcur
          have z3 : wz.frozen? ⟨gm, j * 4 + 3, none⟩ = false := frozen_of_row wz gm _ _ _ hcur
          have HGm := Lib.hid (And.intro hgm (And.intro (show gm ≠ gw by omega) (show gm ≠ gx by have := HGx.out; omega)))
          have hC := HC.out.below HB.out
          unfold Sr.C at hC
          obtain ⟨m0, m1, m2, m3⟩ := hC
          clear hcell hcur hsz hgm hgM
          go_wp2
          go_roundw
          case rel => exact ⟨j + 1, by omega, by go_num, Lib.hid (bset (bset (bset (bset HB.out HGm.out.1 _ _) HGm.out.1 _ _) HGm.out.1 _ _) HGm.out.1 _ _), Lib.hid ((((HA1.out.set _ _ _).set _ _ _).set _ _ _).set _ _ _), Lib.hid ((((HA3.out.set _ _ _).set _ _ _).set _ _ _).set _ _ _), Lib.hid ((((HCw.out.far HGm.out.2.1 _ _).far HGm.out.2.1 _ _).far HGm.out.2.1 _ _).far HGm.out.2.1 _ _), Lib.hid ((((HCx.out.far HGm.out.2.2 _ _).far HGm.out.2.2 _ _).far HGm.out.2.2 _ _).far HGm.out.2.2 _ _)⟩
          case measure => simp [intOf]; omega
        · obtain rfl : p1 = j := by omega
          go_wp2_with fail
          go_loopw [30] (fun i wr => ∃ j : Nat, j ≤ p3 ∧ i = .int .i64 j ∧ Hid (Below w2.heap.size w2 wr) ∧ Hid (Sr.Blk wr w2.heap.size gw ao1 p1) ∧ Hid (Sr.Blk wr w2.heap.size gw co p3) ∧ Hid (Sr.C wr gw q) ∧ Hid (Sr.C wr gx q)) (fun i _ => p3 - (intOf i).toNat)
          case atStart => exact ⟨0, by omega, rfl, HB, HA1, HA3, HCw, HCx⟩
          case round =>
            rename World => wz
            obtain ⟨j, hj, rfl, HB, HA1, HA3, HCw, HCx⟩ := hrel
            by_cases hlt : j < p3
            · obtain ⟨gm, cur, rfl, hgm, hgM, hcur, hsz⟩ := HA3.out (by omega)
              have hcell : ∀ p, p < 4 → ∃ old, wz.cell? ⟨gm, j * 4 + p, none⟩ = some old := fun p hp => ⟨cur[j * 4 + p]'(by omega), by rw [cell_of_row wz gm _ _ _ _ hcur]; simp⟩
              obtain ⟨o0, e0⟩ := hcell 0 (by omega)
              obtain ⟨o1, e1⟩ := hcell 1 (by omega)
              obtain ⟨o2, e2⟩ := hcell 2 (by omega)
              obtain ⟨o3, e3⟩ := hcell 3 (by omega)
              rw [Nat.add_zero] at e0
              have z0 : wz.frozen? ⟨gm, j * 4, none⟩ = false := frozen_of_row wz gm _ _ _ hcur
              have z1 : wz.frozen? ⟨gm, j * 4 + 1, none⟩ = false := frozen_of_row wz gm _ _ _ hcur
              have z2 : wz.frozen? ⟨gm, j * 4 + 2, none⟩ = false := frozen_of_row wz gm _ _ _ hcur
              have z3 : wz.frozen? ⟨gm, j * 4 + 3, none⟩ = false := frozen_of_row wz gm _ _ _ hcur
              have HGm := Lib.hid (And.intro hgm (And.intro (show gm ≠ gw by omega) (show gm ≠ gx by have := HGx.out; omega)))
              have hC := HC.out.below HB.out
              unfold Sr.C at hC
              obtain ⟨m0, m1, m2, m3⟩ := hC
              clear hcell hcur hsz hgm hgM
              go_wp2
              go_roundw
              case rel => exact ⟨j + 1, by omega, by go_num, Lib.hid (bset (bset (bset (bset HB.out HGm.out.1 _ _) HGm.out.1 _ _) HGm.out.1 _ _) HGm.out.1 _ _), Lib.hid ((((HA1.out.set _ _ _).set _ _ _).set _ _ _).set _ _ _), Lib.hid ((((HA3.out.set _ _ _).set _ _ _).set _ _ _).set _ _ _), Lib.hid ((((HCw.out.far HGm.out.2.1 _ _).far HGm.out.2.1 _ _).far HGm.out.2.1 _ _).far HGm.out.2.1 _ _), Lib.hid ((((HCx.out.far HGm.out.2.2 _ _).far HGm.out.2.2 _ _).far HGm.out.2.2 _ _).far HGm.out.2.2 _ _)⟩
              case measure => simp [intOf]; omega
            · obtain rfl : p3 = j := by omega
              have n0 : (q.name.toList == q.name.toList) = true := beq_self_eq_true _
              have n1 : (q.next == q.next) = true := beq_self_eq_true _
              have n2 : (q.limit == q.limit) = true := beq_self_eq_true _
              have n3 : (q.shut == q.shut) = true := beq_self_eq_true _
              have n4 : (f == f) = true := beq_self_eq_true _
              have hC := HC.out.below HB.out
              unfold Sr.C at hC
              obtain ⟨m0, m1, m2, m3⟩ := hC
              have hC := HCw.out
              unfold Sr.C at hC
              obtain ⟨x0, x1, x2, x3⟩ := hC
              have hC := HCx.out
              unfold Sr.C at hC
              obtain ⟨y0, y1, y2, y3⟩ := hC
              go_wp2_with fail
              refine (Sr.intact L markS ao g k cap w2 _ HB.out (HLw.out.below HB.out) (HBk.out.below HB.out) short_mark (by omega)).mono ?_
              rintro e w6 ⟨rfl, b6⟩
              have HB6 := Lib.hid b6
              clear b6
              go_wp2_with fail
              refine (sruns w2 _ HB6.out).mono ?_
              rintro e w7 ⟨rfl, b7⟩
              have HB7 := Lib.hid b7
              clear b7
              go_wp2_with fail
              go_ret
              exact ⟨rfl, bchain HBw.out HB7.out⟩
    · obtain ⟨i, rfl⟩ : ∃ i, j = i + 1 := ⟨j - 1, by omega⟩
      have hil : i < L.length := by have := HLn.out; omega
      obtain ⟨b, off, hao⟩ := HL.out.at (by omega)
      have hrow := (hao ▸ HL.out).row i hil
      subst hao
      obtain ⟨r, hr⟩ : ∃ r, L[i] = r := ⟨_, rfl⟩
      have hrow := hrow.below HB.out
      have HD : Hid (L.drop i = r :: L.drop (i + 1)) := Lib.hid (by rw [List.drop_eq_getElem_cons hil, hr])
      rw [hr] at hrow
      clear hr
      obtain ⟨g0, g1, g2, g3⟩ := hrow
      have hij : ((i + 1 : Nat) : Int) - 1 = (i : Int) := by omega
      rw [hij]
      by_cases he : r.name = s
      · have qe : (r.name.toList == s.toList) = true := beq_iff_eq.2 (by rw [he])
        have HY := Lib.hid (own_cons_yes (l := L.drop (i + 1)) he)
        have hc := HBq.out.c
        unfold Sr.C at hc
        obtain ⟨c0, c1, c2, c3⟩ := hc
        have z0 := HBq.out.frozen 0
        have z1 := HBq.out.frozen 1
        have z2 := HBq.out.frozen 2
        have z3 := HBq.out.frozen 3
        have HSt := Lib.hid (HBq.out.store 0 (by simp) r)
        simp only [Nat.zero_mul, Nat.zero_add] at HSt
        clear he
        go_wp2
        go_roundw
        case rel => exact ⟨i, r, true, by omega, rfl, rfl, Lib.hid (by rw [HD.out]; exact ⟨HY.out.1.symm, HY.out.2.symm⟩), Lib.hid HSt.out, Lib.hid (bset (bset (bset (bset HB.out (Nat.le_refl _) _ _) (Nat.le_refl _) _ _) (Nat.le_refl _) _ _) (Nat.le_refl _) _ _)⟩
        case measure => simp [intOf]
      · have qe : (r.name.toList == s.toList) = false := beq_eq_false_iff_ne.2 fun e => he (Vt.cat_ext e)
        have HY := Lib.hid (own_cons_no (l := L.drop (i + 1)) he)
        clear he
        go_wp2
        go_roundw
        case rel => exact ⟨i, q, f, by omega, rfl, rfl, Lib.hid (by rw [HD.out, HY.out.1, HY.out.2]; exact HQ.out), HBq, HB⟩
        case measure => simp [intOf]
end Go.Proofs.Ytemifminohdhbaa
