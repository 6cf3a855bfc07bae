/- CONTRACTS OF PACKAGE series: Shut, Take, Find. -/
import Derived.Test.YtemifminohdhbaaSsO
namespace Go.Proofs.Ytemifminohdhbaa
open Go.RowKit
open Mem
open Go.Sort (grow)

namespace Sr
theorem flat_cell (r : T) (p : Nat) (x : Value) (hp : p < 4) : ∀ (M : List T) (k : Nat) (hk : k < M.length), rv r = (rv M[k]).set p x → (M.set k r).flatMap rv = (M.flatMap rv).set (k * 4 + p) x
  | a :: l, 0, _, h => by
    have h' : rv r = (rv a).set p x := h
    rw [List.set_cons_zero, List.flatMap_cons, List.flatMap_cons, Nat.zero_mul, Nat.zero_add, List.set_append_left _ _ (by rw [rv_len]; exact hp), h']
  | a :: l, k + 1, hk, h => by
    have ih := flat_cell r p x hp l k (by simpa using hk) (by simpa using h)
    rw [List.set_cons_succ, List.flatMap_cons, List.flatMap_cons, List.set_append_right _ _ (by rw [rv_len]; omega), rv_len, show (k + 1) * 4 + p - 4 = k * 4 + p by omega, ih]
theorem own_cell {w : World} {B g n cap : Nat} {M : List T} (h : Own w B (.slice (some ⟨g, 0, none⟩) n cap) M) (k p : Nat) (hk : k < M.length) (hp : p < 4) (x : Value) (r : T) (hr : rv r = (rv M[k]).set p x) :
    Own (w.setCell ⟨g, k * 4 + p, none⟩ x) B (.slice (some ⟨g, 0, none⟩) n cap) (M.set k r) := by
  rcases h.2 with ⟨h', _⟩ | ⟨g', cap', cur, h', hb, hg, hnc, hcm, hcs, htake⟩
  · cases h'
  · simp only [Value.slice.injEq, Option.some.injEq, Addr.mk.injEq, and_true] at h'
    obtain ⟨e1, e2, e3⟩ := h'
    subst e1 e3
    have h1 := heap_setCell_same _ g (k * 4 + p) _ _ x hg
    refine ⟨by rw [flat_len], .inr ⟨g, cap, _, by rw [List.length_set, e2], hb, h1, by rw [List.length_set]; exact hnc, hcm, by simpa using hcs, ?_⟩⟩
    rw [List.length_set, flat_cell r p x hp M k hk hr]
    simp only [Array.toList_setIfInBounds]
    rw [← htake]
    simp only [List.take_set]
theorem own_block {w : World} {B g n : Nat} {M : List T} (h : Block w g M) (hB : B ≤ g) (hn : n = M.length) (hm : n ≤ 100000) : Own w B (.slice (some ⟨g, 0, none⟩) n n) M := by
  subst hn
  exact ⟨by rw [flat_len], .inr ⟨g, M.length, _, rfl, hB, h, Nat.le_refl _, by have : maxLen = 9223372036854775807 := rfl; omega, by rw [List.size_toArray, flat_len], List.take_of_length_le (by show (M.flatMap rv).length ≤ _; rw [flat_len]; exact Nat.le_refl _)⟩⟩
end Sr
theorem unI_0 {rs : List Sr.T} {s : ByteArray} (h : Se.unE rs s = 0) : unI rs s = (Se.ix s rs : Nat) := if_pos h
set_option maxHeartbeats 2000000 in
theorem ser_shut (rs : List Sr.T) (s : ByteArray) (ao : Option Addr) (n cap : Nat) (w : World) (hR : Sr.Ls w ao n cap rs) :
    Calls Try.prog 10 #[.slice ao n cap, .string s] w (ShutE w rs s) := by
  have HR := Lib.hid hR
  have HN := Lib.hid hR.len
  have hcap := hR.reach
  have hfit := hR.fits
  clear hR
  go_enter Try.func10, Try.ntmps10
  go_wp2_with fail
  refine (ser_unshut rs s ao n cap _ _ (Below.refl _ _) HR.out).mono ?_
  rintro e w1 ⟨rfl, b1⟩
  have HB1 := Lib.hid b1
  clear b1
  by_cases hE : Se.unE rs s = 0
  · have HE := Lib.hid hE
    obtain ⟨hT, hlt, _⟩ := Se.un_0 hE
    have hn8 : n ≤ 8 := by have := ((Se.right_iff rs).1 hT).1; have := HN.out; omega
    have HLt := Lib.hid hlt
    have HO := Lib.hid (Se.own_get hlt)
    rw [hE, unI_0 hE]
    have hin : Se.ix s rs < n := by have := HN.out; omega
    obtain ⟨i, hi⟩ : ∃ i, Se.ix s rs = i := ⟨_, rfl⟩
    have HIx := Lib.hid hi
    rw [hi] at hin HO
    rw [hi]
    clear hi hE hT hlt
    go_wp2_with fail
    refine (ser_clone rs ao n cap _ (HR.out.below HB1.out) (by omega)).mono ?_
    rintro e w2 ⟨rfl, k2, b2⟩
    have HOw := Lib.hid (Sr.own_block (B := w1.heap.size) k2 (Nat.le_refl _) HN.out (by omega))
    have HB2 := Lib.hid (And.intro (bchain HB1.out b2) HB1.out.size)
    have hkl : i < rs.length := by have := HN.out; omega
    obtain ⟨hAt, hfz, hge⟩ := Sr.own_at HOw.out i hkl
    obtain ⟨c0, c1, c2, c3⟩ := hAt
    clear k2 b2 c0 c1 c2 hge
    generalize w1.heap.size = g at *
    have hf3 := hfz (i * 4 + 3)
    clear hfz
    go_wp2_with fail
    go_ret2
    refine ⟨_, by rw [HE.out]; rfl, ?_, bset HB2.out.1 HB2.out.2 _ _⟩
    rw [Se.shut_yes HE.out, HIx.out]
    refine Sr.own_mono (Sr.own_cell HOw.out i 3 hkl (by omega) (.bool true) _ ?_) HB2.out.2
    have hx : rs[i] = Se.own rs s := Option.some.inj ((List.getElem?_eq_getElem hkl).symm.trans HO.out)
    rw [hx]
    rfl
  · have HP := Lib.hid (Se.shut_no hE)
    obtain ⟨e, he⟩ : ∃ e, Se.unE rs s = e := ⟨_, rfl⟩
    have HE := Lib.hid he
    have hne : (e != 0) = true := bne_iff_ne.2 (he ▸ hE)
    rw [he]
    clear he hE
    go_wp2_with fail
    go_ret2
    exact ⟨_, by rw [HE.out]; rfl, by rw [HP.out]; exact Sr.own_nil _ _, HB1.out⟩
set_option maxHeartbeats 2000000 in
theorem ser_take (rs : List Sr.T) (s : ByteArray) (ao : Option Addr) (n cap : Nat) (w : World) (hR : Sr.Ls w ao n cap rs) :
    Calls Try.prog 9 #[.slice ao n cap, .string s] w (TakeE w rs s) := by
  have HR := Lib.hid hR
  have HN := Lib.hid hR.len
  have hcap := hR.reach
  have hfit := hR.fits
  clear hR
  go_enter Try.func9, Try.ntmps9
  go_wp2_with fail
  refine (ser_unshut rs s ao n cap _ _ (Below.refl _ _) HR.out).mono ?_
  rintro e w1 ⟨rfl, b1⟩
  have HB1 := Lib.hid b1
  clear b1
  by_cases hE : Se.unE rs s = 0
  · have HE := Lib.hid hE
    obtain ⟨hT, hlt, _⟩ := Se.un_0 hE
    have hn8 : n ≤ 8 := by have := ((Se.right_iff rs).1 hT).1; have := HN.out; omega
    have hO := Se.own_at hlt
    have HO := Lib.hid (Se.own_get hlt)
    rw [hE, unI_0 hE]
    have hin : Se.ix s rs < n := by have := HN.out; omega
    obtain ⟨b, off, rfl⟩ := HR.out.at (by omega)
    have hrow := (HR.out.row (Se.ix s rs) hlt).below HB1.out
    rw [← hO] at hrow
    obtain ⟨r, hr⟩ : ∃ r, Se.own rs s = r := ⟨_, rfl⟩
    have HRr := Lib.hid hr
    have hsd := Se.sound_iff.1 (((Se.right_iff rs).1 hT).2.1 _ (Se.own_mem hlt))
    rw [hr] at hrow hsd
    have hlm := Se.lim_iff.1 hsd.2.1
    have hnx := hsd.2.2
    obtain ⟨i, hi⟩ : ∃ i, Se.ix s rs = i := ⟨_, rfl⟩
    have HIx := Lib.hid hi
    rw [hi] at hin hrow HO
    rw [hi]
    obtain ⟨g0, g1, g2, g3⟩ := hrow
    clear hi hE hT hlt hO hr hsd
    by_cases hf : r.limit < r.next
    · have HP := Lib.hid (Se.take_full HE.out (by rw [HRr.out]; exact hf))
      go_wp2_with fail
      exact bodyPost_ret (by simp [results, Try.results9, go_sem]; rfl) rfl ⟨_, by rw [HP.out.1, HP.out.2.1], by rw [HP.out.2.2]; exact Sr.own_nil _ _, HB1.out⟩
    · have HP := Lib.hid (Se.take_ok HE.out (by rw [HRr.out]; exact hf))
      go_wp2_with fail
      refine (ser_clone rs (some ⟨b, off, none⟩) n cap _ (HR.out.below HB1.out) (by omega)).mono ?_
      rintro e w2 ⟨rfl, k2, b2⟩
      have HOw := Lib.hid (Sr.own_block (B := w1.heap.size) k2 (Nat.le_refl _) HN.out (by omega))
      have HB2 := Lib.hid (And.intro (bchain HB1.out b2) HB1.out.size)
      have hkl : i < rs.length := by have := HN.out; omega
      obtain ⟨hAt, hfz, hge⟩ := Sr.own_at HOw.out i hkl
      obtain ⟨c0, c1, c2, c3⟩ := hAt
      clear k2 b2 c0 c2 c3 hge g0 g1 g2 g3
      generalize w1.heap.size = g at *
      have hf3 := hfz (i * 4 + 1)
      clear hfz
      go_wp2_with fail
      refine bodyPost_ret (by simp [results, Try.results9, go_sem]; rfl) rfl ⟨_, by rw [HP.out.1, HP.out.2.1, HRr.out], ?_, bset HB2.out.1 HB2.out.2 _ _⟩
      rw [HP.out.2.2, HIx.out]
      refine Sr.own_mono (Sr.own_cell HOw.out i 1 hkl (by omega) _ _ ?_) HB2.out.2
      have hx : rs[i] = r := (Option.some.inj ((List.getElem?_eq_getElem hkl).symm.trans HO.out)).trans HRr.out
      rw [hx, HRr.out]
      rfl
  · have HP := Lib.hid (Se.take_un hE)
    obtain ⟨e, he⟩ : ∃ e, Se.unE rs s = e := ⟨_, rfl⟩
    have HE := Lib.hid he
    have hne : (e != 0) = true := bne_iff_ne.2 (he ▸ hE)
    rw [he]
    clear he hE
    go_wp2_with fail
    exact bodyPost_ret (by simp [results, Try.results9, go_sem]; rfl) rfl ⟨_, by rw [HP.out.1, HP.out.2.1, HE.out], by rw [HP.out.2.2]; exact Sr.own_nil _ _, HB1.out⟩
theorem frz (w : World) (r : Sr.T) (o : Nat) : (Sr.box w r).frozen? ⟨w.heap.size, o, none⟩ = false := frozen_of_row (Sr.box w r) w.heap.size o _ _ (heap_alloc_new w _)
set_option maxHeartbeats 2000000 in
theorem ser_find (rs : List Sr.T) (s : ByteArray) (ao : Option Addr) (n cap : Nat) (w0 w : World) (hw : Below w0.heap.size w0 w) (hR : Sr.Ls w ao n cap rs) :
    Calls Try.prog 19 #[.slice ao n cap, .string s] w fun e w' => e = .returned (.tuple #[Sr.val (Se.own rs s), .bool (decide (Se.ix s rs < rs.length))]) ∧ Below w0.heap.size w0 w' := by
  have HW := Lib.hid hw
  have HR := Lib.hid hR
  have HN := Lib.hid hR.len
  have hcap := hR.reach
  have hfit := hR.fits
  clear hR hw
  go_enter Try.func19, Try.ntmps19
  go_wp2_with fail
  refine (ser_index rs s ao n cap (Sr.box w Sr.zero) _ (Below.refl _ _) (HR.out.below (Sr.below_own w Sr.zero))).mono ?_
  rintro e w1 ⟨rfl, b1⟩
  have hC := (Sr.c_box w Sr.zero).below b1
  unfold Sr.C at hC
  obtain ⟨a0, a1, a2, a3⟩ := hC
  have hsz : w.heap.size < (Sr.box w Sr.zero).heap.size := by rw [Sr.box_size]; omega
  have f0 := ((bcell b1).2 w.heap.size 0 hsz).trans (frz w Sr.zero 0)
  have f1 := ((bcell b1).2 w.heap.size 1 hsz).trans (frz w Sr.zero 1)
  have f2 := ((bcell b1).2 w.heap.size 2 hsz).trans (frz w Sr.zero 2)
  have f3 := ((bcell b1).2 w.heap.size 3 hsz).trans (frz w Sr.zero 3)
  have hB1 := bchain (Sr.below_own w Sr.zero) b1
  have HB1 := Lib.hid (And.intro (bchain HW.out hB1) HW.out.size)
  have HBw := Lib.hid hB1
  clear b1 hsz hB1
  by_cases hlt : Se.ix s rs < rs.length
  · have hO := Se.own_at hlt
    have hin : Se.ix s rs < n := by have := HN.out; omega
    obtain ⟨b, off, rfl⟩ := HR.out.at (by omega)
    have hrow := (HR.out.row (Se.ix s rs) hlt).below HBw.out
    rw [← hO] at hrow
    have HD := Lib.hid (decide_eq_true hlt)
    obtain ⟨r, hr⟩ : ∃ r, Se.own rs s = r := ⟨_, rfl⟩
    rw [hr] at hrow
    have HRr := Lib.hid hr
    obtain ⟨i, hi⟩ : ∃ i, Se.ix s rs = i := ⟨_, rfl⟩
    rw [hi] at hrow hin
    rw [hi]
    obtain ⟨g0, g1, g2, g3⟩ := hrow
    have hq : ((i : Int) == (n : Int)) = false := beq_eq_false_iff_ne.2 (by omega)
    clear hlt hi hr hO
    go_wp2_with fail
    exact bodyPost_ret (v := .tuple #[Sr.val r, .bool true]) (by simp [results, Sr.val, Try.results19, go_sem, a0, a1, a2, a3]) rfl ⟨by rw [HRr.out, HD.out], bset (bset (bset (bset HB1.out.1 HB1.out.2 _ _) HB1.out.2 _ _) HB1.out.2 _ _) HB1.out.2 _ _⟩
  · have hO := Se.own_zero hlt
    have HRr := Lib.hid hO
    have HD := Lib.hid (decide_eq_false hlt)
    have hix : Se.ix s rs = n := by have := Se.ix_le s rs; have := HN.out; omega
    rw [hix]
    have hq : ((n : Int) == (n : Int)) = true := beq_self_eq_true _
    clear hlt hO hix
    go_wp2_with fail
    exact bodyPost_ret (v := .tuple #[Sr.val Sr.zero, .bool false]) (by simp [results, Sr.val, Sr.zero, Try.results19, go_sem, a0, a1, a2, a3]; rfl) rfl ⟨by rw [HRr.out, HD.out], bset (bset (bset (bset HB1.out.1 HB1.out.2 _ _) HB1.out.2 _ _) HB1.out.2 _ _) HB1.out.2 _ _⟩
end Go.Proofs.Ytemifminohdhbaa
