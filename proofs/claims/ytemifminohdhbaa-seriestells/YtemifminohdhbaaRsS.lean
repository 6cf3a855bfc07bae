/- THE DOCUMENT's OWN ANSWER: impostref8's Shut, Take. -/
import Derived.Test.YtemifminohdhbaaRsO
import Derived.Test.YtemifminohdhbaaSsS
namespace Go.Proofs.Ytemifminohdhbaa
open Go.RowKit
open Mem
open Go.Sort (grow)

set_option maxHeartbeats 4000000 in
theorem rser_shut (rs : List Sr.T) (s : ByteArray) (ao : Option Addr) (n cap : Nat) (w : World) (hR : Sr.Ls w ao n cap rs) :
    Calls Try.prog 14 #[.slice ao n cap, .string s] w (ShutE w rs s) := by
  have HR := Lib.hid hR
  have HN := Lib.hid hR.len
  have hcap := hR.reach
  have hfit := hR.fits
  clear hR
  go_enter Try.func14, Try.ntmps14
  go_wp2_with fail
  refine (rser_right rs ao n cap _ _ (Below.refl _ _) HR.out).mono ?_
  rintro e w1 ⟨rfl, b1⟩
  have HB1 := Lib.hid b1
  clear b1
  cases hT : Se.rightB rs
  · have HP := Lib.hid (Se.un_arg (s := s) hT)
    have HQ := Lib.hid (Se.shut_no (l := rs) (s := s) (by rw [HP.out]; omega))
    clear hT
    go_wp2_with fail
    go_ret2
    exact ⟨_, by rw [HP.out]; rfl, by rw [HQ.out]; exact Sr.own_nil _ _, HB1.out⟩
  · have HT := Lib.hid hT
    have hn8 : n ≤ 8 := by have := ((Se.right_iff rs).1 hT).1; have := HN.out; omega
    clear hT
    go_wp2_with fail
    refine (rfind rs s ao n cap _ (HR.out.below HB1.out)).mono ?_
    rintro e w2 ⟨rfl, hw2⟩
    subst hw2
    rw [Se.fnd_ix]
    by_cases hlt : Se.ix s rs < rs.length
    · rw [if_pos hlt]
      have hO := Se.own_at hlt
      have HO := Lib.hid (Se.own_get hlt)
      have HLt := Lib.hid hlt
      have hin : Se.ix s rs < n := by have := HN.out; omega
      obtain ⟨b, off, rfl⟩ := HR.out.at (by omega)
      have hrow := (HR.out.row (Se.ix s rs) hlt).below HB1.out
      rw [← hO] at hrow
      obtain ⟨r, hr⟩ : ∃ r, Se.own rs s = r := ⟨_, rfl⟩
      have HRr := Lib.hid hr
      rw [hr] at hrow
      obtain ⟨i, hi⟩ : ∃ i, Se.ix s rs = i := ⟨_, rfl⟩
      have HIx := Lib.hid hi
      rw [hi] at hin hrow HO
      rw [hi]
      obtain ⟨g0, g1, g2, g3⟩ := hrow
      clear hi hlt hO hr
      cases hsh : r.shut
      · rw [hsh] at g3
        have HE := Lib.hid (Se.un_ok HT.out HLt.out (by rw [HRr.out]; exact hsh))
        have hB1 : Below w2.heap.size w2 (w2.alloc (.cells #[] 32)) := (Below.refl _ _).alloc (Nat.le_refl _) _
        have HBa := Lib.hid hB1
        clear hsh hB1
        go_wp2_with (at_builtin; go_must (refine Sr.wpList_append _ rfl (.tmp 21) (.tmp 22) rfl w2.heap.size (.slice (some ⟨w2.heap.size, 0, none⟩) 0 0) [] rfl (Sr.own_empty (Nat.le_refl _) (heap_alloc_new w2 _)) (some ⟨b, off, none⟩) n cap rs rfl HN.out HR.out.nil (((HR.out.below HB1.out).below HBa.out).seg) (by simp only [List.length_nil]; omega) (by simp) ?_))
        intro v1 y1 o1 gr1 _
        have hb1 := HBa.out.grown gr1 HBa.out.size (Sr.own_ge (Sr.own_empty (Nat.le_refl _) (heap_alloc_new w2 _)))
        obtain ⟨vo, vc, hv, hL1, hg1⟩ := Sr.own_ls o1 HR.out.short
        rw [← HN.out] at hv hL1
        obtain ⟨gb, go, hvo⟩ := hL1.at (by omega)
        obtain ⟨g, hge, hgg⟩ := hg1 _ hvo
        rw [hge] at hvo
        subst hv hvo
        have hvc := hL1.fits
        have hvr := hL1.reach
        have HOw := Lib.hid o1
        have HB2 := Lib.hid (And.intro (bchain HB1.out hb1) (Nat.le_trans HB1.out.size hgg))
        have hkl : i < rs.length := by have := HN.out; omega
        obtain ⟨hAt, hfz, _⟩ := Sr.own_at HOw.out i hkl
        obtain ⟨c0, c1, c2, c3⟩ := hAt
        have hf3 := hfz (i * 4 + 3)
        clear o1 gr1 hb1 hL1 hg1 hge hgg hfz c0 c1 c2 g0 g1 g2 g3
        go_wp2_with fail
        go_ret2
        refine ⟨_, by rw [HE.out]; rfl, ?_, bset HB2.out.1 HB2.out.2 _ _⟩
        rw [Se.shut_yes HE.out, HIx.out]
        refine Sr.own_mono (Sr.own_cell HOw.out i 3 hkl (by omega) (.bool true) _ ?_) HB1.out.size
        have hx : rs[i] = Se.own rs s := Option.some.inj ((List.getElem?_eq_getElem hkl).symm.trans HO.out)
        rw [hx]
        rfl
      · rw [hsh] at g3
        have HP := Lib.hid (Se.un_shut HT.out HLt.out (by rw [HRr.out]; exact hsh))
        have HQ := Lib.hid (Se.shut_no (l := rs) (s := s) (by rw [HP.out]; omega))
        clear hsh
        go_wp2_with fail
        go_ret2
        exact ⟨_, by rw [HP.out]; rfl, by rw [HQ.out]; exact Sr.own_nil _ _, HB1.out⟩
    · have HP := Lib.hid (Se.un_none HT.out hlt)
      have HQ := Lib.hid (Se.shut_no (l := rs) (s := s) (by rw [HP.out]; omega))
      rw [if_neg hlt]
      clear hlt
      go_wp2_with fail
      go_ret2
      exact ⟨_, by rw [HP.out]; rfl, by rw [HQ.out]; exact Sr.own_nil _ _, HB1.out⟩
set_option maxHeartbeats 4000000 in
theorem rser_take (rs : List Sr.T) (s : ByteArray) (ao : Option Addr) (n cap : Nat) (w : World) (hR : Sr.Ls w ao n cap rs) :
    Calls Try.prog 15 #[.slice ao n cap, .string s] w (TakeE w rs s) := by
  have HR := Lib.hid hR
  have HN := Lib.hid hR.len
  have hcap := hR.reach
  have hfit := hR.fits
  clear hR
  go_enter Try.func15, Try.ntmps15
  go_wp2_with fail
  refine (rser_right rs ao n cap _ _ (Below.refl _ _) HR.out).mono ?_
  rintro e w1 ⟨rfl, b1⟩
  have HB1 := Lib.hid b1
  clear b1
  cases hT : Se.rightB rs
  · have HE := Lib.hid (Se.un_arg (s := s) hT)
    have HP := Lib.hid (Se.take_un (l := rs) (s := s) (by rw [HE.out]; omega))
    clear hT
    go_wp2_with fail
    exact bodyPost_ret (by simp [results, Try.results15, go_sem]; rfl) rfl ⟨_, by rw [HP.out.1, HP.out.2.1, HE.out], by rw [HP.out.2.2]; exact Sr.own_nil _ _, HB1.out⟩
  · have HT := Lib.hid hT
    have hn8 : n ≤ 8 := by have := ((Se.right_iff rs).1 hT).1; have := HN.out; omega
    clear hT
    go_wp2_with fail
    refine (rfind rs s ao n cap _ (HR.out.below HB1.out)).mono ?_
    rintro e w2 ⟨rfl, hw2⟩
    subst hw2
    rw [Se.fnd_ix]
    by_cases hlt : Se.ix s rs < rs.length
    · rw [if_pos hlt]
      have hO := Se.own_at hlt
      have HO := Lib.hid (Se.own_get hlt)
      have HLt := Lib.hid hlt
      have hin : Se.ix s rs < n := by have := HN.out; omega
      obtain ⟨b, off, rfl⟩ := HR.out.at (by omega)
      have hrow := (HR.out.row (Se.ix s rs) hlt)
      rw [← hO] at hrow
      obtain ⟨r, hr⟩ : ∃ r, Se.own rs s = r := ⟨_, rfl⟩
      have HRr := Lib.hid hr
      have hsd := Se.sound_iff.1 (((Se.right_iff rs).1 HT.out).2.1 _ (Se.own_mem hlt))
      rw [hr] at hrow hsd
      have hlm := Se.lim_iff.1 hsd.2.1
      have hnx := hsd.2.2
      obtain ⟨i, hi⟩ : ∃ i, Se.ix s rs = i := ⟨_, rfl⟩
      have HIx := Lib.hid hi
      rw [hi] at hin hrow HO
      rw [hi]
      have HRw := Lib.hid hrow
      obtain ⟨g0, g1, g2, g3⟩ := hrow.below HB1.out
      clear hi hlt hO hr hsd hrow
      cases hsh : r.shut
      · rw [hsh] at g3
        have HE := Lib.hid (Se.un_ok HT.out HLt.out (by rw [HRr.out]; exact hsh))
        have k1 := cell_regrown g1
        have k2 := cell_regrown g2
        clear hsh
        by_cases hf : r.limit < r.next
        · have HP := Lib.hid (Se.take_full HE.out (by rw [HRr.out]; exact hf))
          go_wp2
          refine wp_region_quiet_below (by kernel_rfl) (by kernel_rfl) ?_
          repeat (first | go_big_quiet_step (fail) | quiet_step (fail))
          refine wpQuiet_nil ?_
          intro _ hw'
          obtain ⟨⟨dq, osq⟩, hw''⟩ := hw'
          subst hw''
          have HBv := Lib.hid (bchain HB1.out (below_regrown w2 dq osq))
          go_wp2_with fail
          exact bodyPost_ret (by simp [results, Try.results15, go_sem]; rfl) rfl ⟨_, by rw [HP.out.1, HP.out.2.1], by rw [HP.out.2.2]; exact Sr.own_nil _ _, HBv.out⟩
        · have HP := Lib.hid (Se.take_ok HE.out (by rw [HRr.out]; exact hf))
          go_wp2
          refine wp_region_quiet_below (by kernel_rfl) (by kernel_rfl) ?_
          repeat (first | go_big_quiet_step (fail) | quiet_step (fail))
          refine wpQuiet_nil ?_
          intro _ hw'
          obtain ⟨⟨dq, osq⟩, hw''⟩ := hw'
          subst hw''
          have HBv := Lib.hid (bchain HB1.out (below_regrown w2 dq osq))
          clear k1 k2 g0 g1 g2 g3
          generalize grow (redrawn w2 dq) osq = x at *
          have hB1 : Below x.heap.size x (x.alloc (.cells #[] 32)) := (Below.refl _ _).alloc (Nat.le_refl _) _
          have HBa := Lib.hid hB1
          clear hB1
          go_wp2_with (at_builtin; go_must (refine Sr.wpList_append _ rfl (.tmp 36) (.tmp 37) rfl x.heap.size (.slice (some ⟨x.heap.size, 0, none⟩) 0 0) [] rfl (Sr.own_empty (Nat.le_refl _) (heap_alloc_new x _)) (some ⟨b, off, none⟩) n cap rs rfl HN.out HR.out.nil (((HR.out.below HBv.out).below HBa.out).seg) (by simp only [List.length_nil]; omega) (by simp) ?_))
          intro v1 y1 o1 gr1 _
          have hb1 := HBa.out.grown gr1 HBa.out.size (Sr.own_ge (Sr.own_empty (Nat.le_refl _) (heap_alloc_new x _)))
          obtain ⟨vo, vc, hv, hL1, hg1⟩ := Sr.own_ls o1 HR.out.short
          rw [← HN.out] at hv hL1
          obtain ⟨gb, go, hvo⟩ := hL1.at (by omega)
          obtain ⟨g, hge, hgg⟩ := hg1 _ hvo
          rw [hge] at hvo
          subst hv hvo
          have hvc := hL1.fits
          have hvr := hL1.reach
          have HOw := Lib.hid o1
          have HB2 := Lib.hid (And.intro (bchain HBv.out hb1) (Nat.le_trans HBv.out.size hgg))
          have hkl : i < rs.length := by have := HN.out; omega
          have hx : rs[i] = r := (Option.some.inj ((List.getElem?_eq_getElem hkl).symm.trans HO.out)).trans HRr.out
          obtain ⟨hAt, hfz, _⟩ := Sr.own_at HOw.out i hkl
          rw [hx] at hAt
          have HX := Lib.hid hx
          obtain ⟨c0, c1, c2, c3⟩ := hAt
          have hf3 := hfz (i * 4 + 1)
          obtain ⟨U, hU⟩ : ∃ U, y1.setCell ⟨g, i * 4 + 1, none⟩ (.int .i64 (r.next + 1)) = U := ⟨_, rfl⟩
          have HBU : Hid (Below w.heap.size w U) := Lib.hid (hU ▸ bset HB2.out.1 HB2.out.2 _ _)
          have HOU : Hid (Sr.Own U x.heap.size (.slice (some ⟨g, 0, none⟩) n vc) (rs.set i (Se.nextT r))) := Lib.hid (by
            rw [← hU]
            refine Sr.own_cell HOw.out i 1 hkl (by omega) _ _ ?_
            rw [HX.out]
            rfl)
          obtain ⟨g0, g1, g2, g3⟩ := HRw.out.below HBU.out
          have k1 := cell_regrown g1
          clear o1 gr1 hb1 hL1 hg1 hge hgg hfz c0 c2 c3 g0 g2 g3 hx
          go_wp2
          refine wp_region_quiet_below (by kernel_rfl) (by kernel_rfl) ?_
          repeat (first | go_big_quiet_step (fail) | quiet_step (fail))
          refine wpQuiet_nil ?_
          intro _ hw'
          obtain ⟨⟨dq, osq⟩, hw''⟩ := hw'
          subst hw''
          have HBz := Lib.hid (below_regrown U dq osq)
          go_wp2_with fail
          refine bodyPost_ret (by simp [results, Try.results15, go_sem]; rfl) rfl ⟨_, by rw [HP.out.1, HP.out.2.1, HRr.out], ?_, bchain HBU.out HBz.out⟩
          rw [HP.out.2.2, HIx.out, HRr.out]
          exact Sr.own_mono (Sr.own_below HOU.out HBz.out) HBv.out.size
      · rw [hsh] at g3
        have HE := Lib.hid (Se.un_shut HT.out HLt.out (by rw [HRr.out]; exact hsh))
        have HP := Lib.hid (Se.take_un (l := rs) (s := s) (by rw [HE.out]; omega))
        clear hsh
        go_wp2_with fail
        exact bodyPost_ret (by simp [results, Try.results15, go_sem]; rfl) rfl ⟨_, by rw [HP.out.1, HP.out.2.1, HE.out], by rw [HP.out.2.2]; exact Sr.own_nil _ _, HB1.out⟩
    · have HE := Lib.hid (Se.un_none HT.out hlt)
      have HP := Lib.hid (Se.take_un (l := rs) (s := s) (by rw [HE.out]; omega))
      rw [if_neg hlt]
      clear hlt
      go_wp2_with fail
      exact bodyPost_ret (by simp [results, Try.results15, go_sem]; rfl) rfl ⟨_, by rw [HP.out.1, HP.out.2.1, HE.out], by rw [HP.out.2.2]; exact Sr.own_nil _ _, HB1.out⟩
end Go.Proofs.Ytemifminohdhbaa
