/- THE WALK OF KindMakes. (By genmakes.py.) -/
import Derived.Test.YtfmfeagfinnmmaaKRun
import Derived.Test.YtfmfeagfinnmmaaRefKindOf
import Derived.Test.YtfmfeagfinnmmaaVlR
namespace Go.Proofs.Ytfmfeagfinnmmaa
open Go.RowKit
open Go.Sort (grow)
open Vl (T)
open Mem Tg

/-- the mark behind a roomy copy -/
def mk3 : T := ⟨0, 3, .empty, 0, 0, 0⟩
theorem mk3_short : Vl.Short mk3 := short_of (l := [mk3]) (by decide +kernel) mk3 (by simp)
theorem runs_agg (u : World) (i : Nat) (os : Array Obj) : Ans 3 #[] u i os (.bool true) := Calls.regrown_of (kruns_any _ _ (Below.refl _ _))
theorem kind_agg {A : Nat → Prop} {w : World} {t : Th} {v : Value} (h : Is A w t v) (i : Nat) (os : Array Obj) : Ans 18 #[.agg #[v]] w i os (.int .i64 t.kind) :=
  Calls.regrown_of (kind_any t v _ _ (Below.refl _ _) (h.stays (below_regrown w i os)))
theorem same_agg {A : Nat → Prop} {w : World} {t : Th} {v : Value} (h : Is A w t v) (hf : t.fits 0 0) (i : Nat) (os : Array Obj) : Ans 11 #[.agg #[v], .agg #[v]] w i os (.bool true) :=
  Calls.regrown_of (same_yes t v v _ _ (Below.refl _ _) (h.stays (below_regrown w i os)) (h.stays (below_regrown w i os)) hf)
theorem book_agg {w : World} {ao bo : Option Addr} {n m ca cb : Nat} {xs ys : List T} (hA : Vl.Ls w ao n ca xs) (hB : Vl.Ls w bo m cb ys) (i : Nat) (os : Array Obj) : Ans 23 #[.slice ao n ca, .slice bo m cb] w i os (.bool (Vl.sameB xs ys)) :=
  Calls.regrown_of (Vl.same_any xs ys ao bo n m ca cb _ _ (Below.refl _ _) (hA.below (below_regrown w i os)) (hB.below (below_regrown w i os)))
theorem of_zero {l : List T} {w w' : World} {e : Ending} (h : ofP l w e w') (h0 : Kd.ofE l = 0) : ∃ t v, e = .returned (.tuple #[.agg #[v], .int .i64 0]) ∧ Is (fun b => w.heap.size ≤ b) w' t v ∧ l = t.flat ∧ t.fits 0 0 := by
  rcases h with ⟨_, t, v, h2, h3, h4⟩ | ⟨h2, _⟩
  · obtain ⟨t', e1, e2, e3, e4⟩ := Th.ofE_zero h0
    rw [h2] at e1
    injection e1 with e1
    injection e1 with e1
    subst e1
    exact ⟨t, v, h3, h4, e2, e3, by rw [← e2]; omega⟩
  · exact absurd h0 h2
set_option maxHeartbeats 4000000 in
theorem kindMakes_walk (rs : List T) (ao : Option Addr) (n cap : Nat) (w : World) (hR : Vl.Ls w ao n cap rs) :
    Calls Try.prog 4 #[.slice ao n cap] w fun e w' => e = .returned (.bool true) ∧ Below w.heap.size w w' := by
  have hfit := hR.fits
  have hcap := hR.reach
  by_cases h300 : 300 < n
  · obtain ⟨hs0, hL0⟩ := hR.to 300 (by omega)
    obtain ⟨m, hm⟩ : ∃ m : Nat, 300 = m := ⟨_, rfl⟩
    have hs1 : ∀ u, (Instr.slice 33 (.slice ao n cap) none (some (.int .i64 300)) none).run Try.prog u = .ok (.slice ao m cap) u := by
      intro u
      rw [← hm]
      exact hs0 u
    obtain ⟨L, hLe⟩ : ∃ L, rs.take 300 = L := ⟨_, rfl⟩
    have hL : Vl.Ls w ao m cap L := by
      rw [← hm, ← hLe]
      exact hL0
    have hm3 : m ≤ 300 := by omega
    have hmc : m ≤ cap := by omega
    clear hs0 hL0 hLe hm hR
    have HL := Lib.hid hL
    have HLen := Lib.hid hL.len
    clear hL
    have hcall := Vl.roomy L mk3 ao m cap w HL.out (by omega)
    unfold Vl.val mk3 at hcall
    have HCa := Lib.hid hcall
    clear hcall
    go_enter Try.func4, Try.ntmps4
    go_wp2_with fail
    refine HCa.out.mono ?_
    rintro e w1 ⟨rfl, hblk, b1⟩
    have HB1 := Lib.hid b1
    have HBk := Lib.hid hblk
    clear b1 hs1
    have hF := Vl.full_ls (mark := mk3) hblk HLen.out (by omega) HL.out.short mk3_short
    obtain ⟨hs2, hF2⟩ := hF.to m (by omega)
    rw [List.take_left' HLen.out.symm] at hF2
    have HF2 := Lib.hid hF2
    clear hblk hF hF2
    go_wp2_with fail
    refine (kind_of L _ m (m + 80) w1 w1 (Below.refl _ _) HF2.out).mono ?_
    rintro e w2 ⟨he, b2⟩
    have HB2 := Lib.hid (bchain HB1.out b2)
    have HB2' := Lib.hid b2
    clear b2 hs2
    by_cases h0 : Kd.ofE L = 0
    · obtain ⟨t, v, rfl, hI, hflat, hfits⟩ := of_zero he h0
      have hv1 := hI.oneCell
      have hst := store_fresh w2 v hv1
      have HI := Lib.hid hI
      have HFl := Lib.hid hflat
      have HFt := Lib.hid hfits
      have H0 := Lib.hid h0
      have bX : Below w2.heap.size w2 (w2.alloc (.cells #[v] 25)) := (Below.refl _ _).alloc (Nat.le_refl _) _
      have HBX := Lib.hid bX
      have HIX := Lib.hid (hI.stays bX)
      have hcv : (w2.alloc (.cells #[v] 25)).cell? ⟨w2.heap.size, 0, none⟩ = some v := by simp [go_sem]
      have HCv := Lib.hid hcv
      clear he hI hflat hfits bX hcv h0
      go_wp2_with fail
      refine (refKindOf_any L ao m cap (w2.alloc (.cells #[v] 25)) _ (Below.refl _ _) (HL.out.below (bchain HB2.out HBX.out))).mono ?_
      rintro e w3 ⟨rfl, b3⟩
      rw [H0.out]
      have HB3 := Lib.hid b3
      clear b3 hst
      have hcall := Vl.intact L mk3 ao (w.heap.size + 1) m cap w3 w3 (Below.refl _ _) (HL.out.below (bchain (bchain HB2.out HBX.out) HB3.out)) ((((HBk.out.below HB2'.out).below HBX.out).below HB3.out)) mk3_short (by omega)
      unfold Vl.val mk3 at hcall
      have HCi := Lib.hid hcall
      clear hcall
      go_wp2_with fail
      refine HCi.out.mono ?_
      rintro e w4 ⟨rfl, b4⟩
      have HB4 := Lib.hid (bchain HB3.out b4)
      have hcv : w4.cell? ⟨w2.heap.size, 0, none⟩ = some v := by
        rw [(bcell HB4.out).1 _ _ (cell_lt HCv.out)]
        exact HCv.out
      have HCv4 := Lib.hid hcv
      clear b4
      go_wp2_with fail
      refine (kind_flat t v w4 w4 (Below.refl _ _) (HIX.out.stays HB4.out).lt).mono ?_
      rintro e w5 ⟨he, b5⟩
      rcases he with ⟨_, sv, rfl, o5⟩ | ⟨hno, _⟩
      · have hI5 := (HIX.out.stays HB4.out).stays b5
        obtain ⟨so, sc, rfl, hLs, _⟩ := Vl.own_ls o5 hI5.short
        have hL5 := (HL.out.below (bchain (bchain HB2.out HBX.out) HB4.out)).below b5
        have hpos : 0 < m := by
          rw [HLen.out, HFl.out]
          exact Th.flat_pos t
        obtain ⟨b, off, rfl⟩ := hL5.at hpos
        have hrow := hL5.row 0 (by rw [← HLen.out]; exact hpos)
        rw [Nat.zero_mul, Nat.add_zero] at hrow
        have hk0 : (L[0]'(by rw [← HLen.out]; exact hpos)).kind = t.kind := by
          have e : L[0]? = some t.head := by rw [HFl.out, Th.flat_eq]; rfl
          rw [List.getElem?_eq_getElem (by rw [← HLen.out]; exact hpos)] at e
          rw [Option.some.inj e, Th.head_kind]
        have g0 := hrow.c0
        rw [hk0] at g0
        have g0' := cell_regrown g0
        have hcv5 : w5.cell? ⟨w2.heap.size, 0, none⟩ = some v := by
          rw [(bcell b5).1 _ _ (cell_lt HCv4.out)]
          exact HCv4.out
        have hcv' := cell_regrown hcv5
        have k1 := book_agg hLs hL5
        rw [HFl.out, Vl.sameB_self] at k1
        have k2 := kind_agg hI5
        have k3 := same_agg hI5 HFt.out
        have k4 := runs_agg
        have HB5 := Lib.hid (bchain (bchain (bchain HB2.out HBX.out) HB4.out) b5)
        clear b5 o5 hLs hL5 hI5 hrow hk0 g0 hcv5 hcv
        go_wp2
        refine wp_region_quiet_below (by kernel_rfl) (by kernel_rfl) ?_
        repeat (first | go_big_quiet_step (first | (go_at_call 23; exact k1 _ _) | (go_at_call 18; exact k2 _ _) | (go_at_call 11; exact k3 _ _) | (go_at_call 3; exact k4 _ _ _)) | quiet_step (first | (go_at_call 23; exact k1 _ _) | (go_at_call 18; exact k2 _ _) | (go_at_call 11; exact k3 _ _) | (go_at_call 3; exact k4 _ _ _)))
        refine wpQuiet_nil ?_
        intro _ hw'
        obtain ⟨⟨dq, osq⟩, hw''⟩ := hw'
        subst hw''
        have HB6 := Lib.hid (bchain HB5.out (below_regrown w5 dq osq))
        go_wp2
        go_ret
        exact ⟨rfl, HB6.out⟩
      · exact absurd HFt.out hno
    · obtain ⟨k, hk⟩ : ∃ k, Kd.ofE L = k := ⟨_, rfl⟩
      rw [hk] at h0
      obtain rfl := of_no he hk h0
      have HK := Lib.hid hk
      have hne : (k != 0) = true := bne_iff_ne.2 h0
      have hkk : (k != k) = false := bne_self_eq_false _
      have bX : Below w2.heap.size w2 (w2.alloc (.cells #[.nilIface] 25)) := (Below.refl _ _).alloc (Nat.le_refl _) _
      have HBX := Lib.hid bX
      have hcv : (w2.alloc (.cells #[.nilIface] 25)).cell? ⟨w2.heap.size, 0, none⟩ = some .nilIface := by simp [go_sem]
      have HCv := Lib.hid hcv
      clear he bX hcv h0 hk
      go_wp2_with fail
      refine (refKindOf_any L ao m cap (w2.alloc (.cells #[.nilIface] 25)) _ (Below.refl _ _) (HL.out.below (bchain HB2.out HBX.out))).mono ?_
      rintro e w3 ⟨rfl, b3⟩
      rw [HK.out]
      have HB3 := Lib.hid b3
      clear b3
      have hcall := Vl.intact L mk3 ao (w.heap.size + 1) m cap w3 w3 (Below.refl _ _) (HL.out.below (bchain (bchain HB2.out HBX.out) HB3.out)) ((((HBk.out.below HB2'.out).below HBX.out).below HB3.out)) mk3_short (by omega)
      unfold Vl.val mk3 at hcall
      have HCi := Lib.hid hcall
      clear hcall
      go_wp2_with fail
      refine HCi.out.mono ?_
      rintro e w4 ⟨rfl, b4⟩
      have HB4 := Lib.hid (bchain HB3.out b4)
      have hcv : w4.cell? ⟨w2.heap.size, 0, none⟩ = some .nilIface := by
        rw [(bcell HB4.out).1 _ _ (cell_lt HCv.out)]
        exact HCv.out
      clear b4
      go_wp2_with fail
      refine (kind_any (A := fun _ => True) .none .nilIface w4 _ (Below.refl _ _) .nothing).mono ?_
      rintro e w5 ⟨rfl, b5⟩
      have HB5 := Lib.hid (bchain (bchain (bchain HB2.out HBX.out) HB4.out) b5)
      clear b5
      unfold Th.kind
      go_wp2_with fail
      refine (kruns_any w _ HB5.out).mono ?_
      rintro e w6 ⟨rfl, b6⟩
      have HB6 := Lib.hid b6
      clear b6
      go_wp2_with fail
      go_ret
      exact ⟨rfl, HB6.out⟩
  · obtain ⟨m, hm⟩ : ∃ m : Nat, n = m := ⟨_, rfl⟩
    subst hm
    obtain ⟨L, hLe⟩ : ∃ L, rs = L := ⟨_, rfl⟩
    subst hLe
    have hL := hR
    have hs1 : True := trivial
    clear hR
    have HL := Lib.hid hL
    have HLen := Lib.hid hL.len
    clear hL
    have hcall := Vl.roomy rs mk3 ao n cap w HL.out (by omega)
    unfold Vl.val mk3 at hcall
    have HCa := Lib.hid hcall
    clear hcall
    go_enter Try.func4, Try.ntmps4
    go_wp2_with fail
    refine HCa.out.mono ?_
    rintro e w1 ⟨rfl, hblk, b1⟩
    have HB1 := Lib.hid b1
    have HBk := Lib.hid hblk
    clear b1 hs1
    have hF := Vl.full_ls (mark := mk3) hblk HLen.out (by omega) HL.out.short mk3_short
    obtain ⟨hs2, hF2⟩ := hF.to n (by omega)
    rw [List.take_left' HLen.out.symm] at hF2
    have HF2 := Lib.hid hF2
    clear hblk hF hF2
    go_wp2_with fail
    refine (kind_of rs _ n (n + 80) w1 w1 (Below.refl _ _) HF2.out).mono ?_
    rintro e w2 ⟨he, b2⟩
    have HB2 := Lib.hid (bchain HB1.out b2)
    have HB2' := Lib.hid b2
    clear b2 hs2
    by_cases h0 : Kd.ofE rs = 0
    · obtain ⟨t, v, rfl, hI, hflat, hfits⟩ := of_zero he h0
      have hv1 := hI.oneCell
      have hst := store_fresh w2 v hv1
      have HI := Lib.hid hI
      have HFl := Lib.hid hflat
      have HFt := Lib.hid hfits
      have H0 := Lib.hid h0
      have bX : Below w2.heap.size w2 (w2.alloc (.cells #[v] 25)) := (Below.refl _ _).alloc (Nat.le_refl _) _
      have HBX := Lib.hid bX
      have HIX := Lib.hid (hI.stays bX)
      have hcv : (w2.alloc (.cells #[v] 25)).cell? ⟨w2.heap.size, 0, none⟩ = some v := by simp [go_sem]
      have HCv := Lib.hid hcv
      clear he hI hflat hfits bX hcv h0
      go_wp2_with fail
      refine (refKindOf_any rs ao n cap (w2.alloc (.cells #[v] 25)) _ (Below.refl _ _) (HL.out.below (bchain HB2.out HBX.out))).mono ?_
      rintro e w3 ⟨rfl, b3⟩
      rw [H0.out]
      have HB3 := Lib.hid b3
      clear b3 hst
      have hcall := Vl.intact rs mk3 ao (w.heap.size + 1) n cap w3 w3 (Below.refl _ _) (HL.out.below (bchain (bchain HB2.out HBX.out) HB3.out)) ((((HBk.out.below HB2'.out).below HBX.out).below HB3.out)) mk3_short (by omega)
      unfold Vl.val mk3 at hcall
      have HCi := Lib.hid hcall
      clear hcall
      go_wp2_with fail
      refine HCi.out.mono ?_
      rintro e w4 ⟨rfl, b4⟩
      have HB4 := Lib.hid (bchain HB3.out b4)
      have hcv : w4.cell? ⟨w2.heap.size, 0, none⟩ = some v := by
        rw [(bcell HB4.out).1 _ _ (cell_lt HCv.out)]
        exact HCv.out
      have HCv4 := Lib.hid hcv
      clear b4
      go_wp2_with fail
      refine (kind_flat t v w4 w4 (Below.refl _ _) (HIX.out.stays HB4.out).lt).mono ?_
      rintro e w5 ⟨he, b5⟩
      rcases he with ⟨_, sv, rfl, o5⟩ | ⟨hno, _⟩
      · have hI5 := (HIX.out.stays HB4.out).stays b5
        obtain ⟨so, sc, rfl, hLs, _⟩ := Vl.own_ls o5 hI5.short
        have hL5 := (HL.out.below (bchain (bchain HB2.out HBX.out) HB4.out)).below b5
        have hpos : 0 < n := by
          rw [HLen.out, HFl.out]
          exact Th.flat_pos t
        obtain ⟨b, off, rfl⟩ := hL5.at hpos
        have hrow := hL5.row 0 (by rw [← HLen.out]; exact hpos)
        rw [Nat.zero_mul, Nat.add_zero] at hrow
        have hk0 : (rs[0]'(by rw [← HLen.out]; exact hpos)).kind = t.kind := by
          have e : rs[0]? = some t.head := by rw [HFl.out, Th.flat_eq]; rfl
          rw [List.getElem?_eq_getElem (by rw [← HLen.out]; exact hpos)] at e
          rw [Option.some.inj e, Th.head_kind]
        have g0 := hrow.c0
        rw [hk0] at g0
        have g0' := cell_regrown g0
        have hcv5 : w5.cell? ⟨w2.heap.size, 0, none⟩ = some v := by
          rw [(bcell b5).1 _ _ (cell_lt HCv4.out)]
          exact HCv4.out
        have hcv' := cell_regrown hcv5
        have k1 := book_agg hLs hL5
        rw [HFl.out, Vl.sameB_self] at k1
        have k2 := kind_agg hI5
        have k3 := same_agg hI5 HFt.out
        have k4 := runs_agg
        have HB5 := Lib.hid (bchain (bchain (bchain HB2.out HBX.out) HB4.out) b5)
        clear b5 o5 hLs hL5 hI5 hrow hk0 g0 hcv5 hcv
        go_wp2
        refine wp_region_quiet_below (by kernel_rfl) (by kernel_rfl) ?_
        repeat (first | go_big_quiet_step (first | (go_at_call 23; exact k1 _ _) | (go_at_call 18; exact k2 _ _) | (go_at_call 11; exact k3 _ _) | (go_at_call 3; exact k4 _ _ _)) | quiet_step (first | (go_at_call 23; exact k1 _ _) | (go_at_call 18; exact k2 _ _) | (go_at_call 11; exact k3 _ _) | (go_at_call 3; exact k4 _ _ _)))
        refine wpQuiet_nil ?_
        intro _ hw'
        obtain ⟨⟨dq, osq⟩, hw''⟩ := hw'
        subst hw''
        have HB6 := Lib.hid (bchain HB5.out (below_regrown w5 dq osq))
        go_wp2
        go_ret
        exact ⟨rfl, HB6.out⟩
      · exact absurd HFt.out hno
    · obtain ⟨k, hk⟩ : ∃ k, Kd.ofE rs = k := ⟨_, rfl⟩
      rw [hk] at h0
      obtain rfl := of_no he hk h0
      have HK := Lib.hid hk
      have hne : (k != 0) = true := bne_iff_ne.2 h0
      have hkk : (k != k) = false := bne_self_eq_false _
      have bX : Below w2.heap.size w2 (w2.alloc (.cells #[.nilIface] 25)) := (Below.refl _ _).alloc (Nat.le_refl _) _
      have HBX := Lib.hid bX
      have hcv : (w2.alloc (.cells #[.nilIface] 25)).cell? ⟨w2.heap.size, 0, none⟩ = some .nilIface := by simp [go_sem]
      have HCv := Lib.hid hcv
      clear he bX hcv h0 hk
      go_wp2_with fail
      refine (refKindOf_any rs ao n cap (w2.alloc (.cells #[.nilIface] 25)) _ (Below.refl _ _) (HL.out.below (bchain HB2.out HBX.out))).mono ?_
      rintro e w3 ⟨rfl, b3⟩
      rw [HK.out]
      have HB3 := Lib.hid b3
      clear b3
      have hcall := Vl.intact rs mk3 ao (w.heap.size + 1) n cap w3 w3 (Below.refl _ _) (HL.out.below (bchain (bchain HB2.out HBX.out) HB3.out)) ((((HBk.out.below HB2'.out).below HBX.out).below HB3.out)) mk3_short (by omega)
      unfold Vl.val mk3 at hcall
      have HCi := Lib.hid hcall
      clear hcall
      go_wp2_with fail
      refine HCi.out.mono ?_
      rintro e w4 ⟨rfl, b4⟩
      have HB4 := Lib.hid (bchain HB3.out b4)
      have hcv : w4.cell? ⟨w2.heap.size, 0, none⟩ = some .nilIface := by
        rw [(bcell HB4.out).1 _ _ (cell_lt HCv.out)]
        exact HCv.out
      clear b4
      go_wp2_with fail
      refine (kind_any (A := fun _ => True) .none .nilIface w4 _ (Below.refl _ _) .nothing).mono ?_
      rintro e w5 ⟨rfl, b5⟩
      have HB5 := Lib.hid (bchain (bchain (bchain HB2.out HBX.out) HB4.out) b5)
      clear b5
      unfold Th.kind
      go_wp2_with fail
      refine (kruns_any w _ HB5.out).mono ?_
      rintro e w6 ⟨rfl, b6⟩
      have HB6 := Lib.hid b6
      clear b6
      go_wp2_with fail
      go_ret
      exact ⟨rfl, HB6.out⟩
end Go.Proofs.Ytfmfeagfinnmmaa
