/- CONTRACTS OF PACKAGE invoice: ask, find, place. -/
import Derived.Test.YthcaecinjmnlbabHc
import Derived.Test.YthcaecinjmnlbabHe
import Derived.Test.YthcaecinjmnlbabHb
set_option linter.unusedVariables false
namespace Go.Proofs.Ythcaecinjmnlbab
open Go.RowKit
open Vt (Rt)
open Go.Sort (grow)

/-- what is wrong with a line ahead of its amount -/
def Iv.askE (rs : List Rt) (y m d : Int) (x : Ln.T) : Int :=
  if 64 < x.text.size then 2 else if Rn.name (txt x.category) = false then 8 else if x.count < 1 ∨ 1048576 < x.count then 1 else if (Vt.find rs x.category y m d).2 = false then 10 else 0
def Iv.askV (rs : List Rt) (y m d : Int) (x : Ln.T) : Int := if Iv.askE rs y m d x = 0 then (Vt.find rs x.category y m d).1 else 0
theorem Iv.ask_line {rs : List Rt} {y m d : Int} {x : Ln.T} : Iv.lineE rs y m d x = if Iv.askE rs y m d x = 0 then Mn.err (x.count * x.price) else Iv.askE rs y m d x := by
  unfold Iv.lineE Iv.askE
  split
  · rfl
  · split
    · rfl
    · split
      · rfl
      · split
        · rfl
        · rfl
section
variable {rs : List Rt} {y m d : Int} {x : Ln.T}
theorem ask_2 (h : 64 < x.text.size) : Iv.askE rs y m d x = 2 := if_pos h
theorem ask_8 (h : ¬ 64 < x.text.size) (k : Rn.name (txt x.category) = false) : Iv.askE rs y m d x = 8 := by
  unfold Iv.askE
  rw [if_neg h, if_pos k]
theorem ask_1 (h : ¬ 64 < x.text.size) (k : Rn.name (txt x.category) = true) (l : x.count < 1 ∨ 1048576 < x.count) : Iv.askE rs y m d x = 1 := by
  unfold Iv.askE
  rw [if_neg h, if_neg (by rw [k]; simp), if_pos l]
theorem ask_10 (h : ¬ 64 < x.text.size) (k : Rn.name (txt x.category) = true) (l : ¬ (x.count < 1 ∨ 1048576 < x.count)) (n : (Vt.find rs x.category y m d).2 = false) : Iv.askE rs y m d x = 10 := by
  unfold Iv.askE
  rw [if_neg h, if_neg (by rw [k]; simp), if_neg l, if_pos n]
theorem ask_0 (h : ¬ 64 < x.text.size) (k : Rn.name (txt x.category) = true) (l : ¬ (x.count < 1 ∨ 1048576 < x.count)) (n : (Vt.find rs x.category y m d).2 = true) : Iv.askE rs y m d x = 0 := by
  unfold Iv.askE
  rw [if_neg h, if_neg (by rw [k]; simp), if_neg l, if_neg (by rw [n]; simp)]
end
theorem boxedDL (w : World) (y m d : Int) (x : Ln.T) : ∃ W, (w.alloc (.cells #[.int .i64 y, .int .i64 m, .int .i64 d] 24)).alloc (.cells #[.string x.text, .string x.category, .int .i64 x.count, .int .i64 x.price] 30) = W ∧
    Below w.heap.size w W ∧ DayC W w.heap.size y m d ∧ Ln.C W (w.heap.size + 1) x := by
  have b1 : Below w.heap.size w (w.alloc (.cells #[.int .i64 y, .int .i64 m, .int .i64 d] 24)) := (Below.refl _ _).alloc (Nat.le_refl _) _
  refine ⟨_, rfl, bchain b1 (Ln.below_own _ x), (dayC_box w y m d).below (Ln.below_own _ x), ?_⟩
  have h := Ln.c_box (w.alloc (.cells #[.int .i64 y, .int .i64 m, .int .i64 d] 24)) x
  rw [show (w.alloc (.cells #[.int .i64 y, .int .i64 m, .int .i64 d] 24)).heap.size = w.heap.size + 1 by simp] at h
  exact h
set_option maxHeartbeats 2000000 in
theorem inv_ask (rs : List Rt) (ls : List Ln.T) (ao : Option Addr) (n ca k : Nat) (y m d : Int) (w0 w : World) (hw : Below w0.heap.size w0 w) (hR : Rts w ao n ca rs) (hy : Fit y) (hm : Fit m) (hd : Fit d) (hk : k = ls.length) (hk63 : k ≤ 9223372036854775807) :
    Calls Try.prog 12 #[.slice ao n ca, dayV y m d, .int .i64 (k : Int)] w fun e w' => e = .returned (.int .i64 (Iv.headE rs y m d ls)) ∧ Below w0.heap.size w0 w' := by
  have HW := Lib.hid hw
  have HR := Lib.hid hR
  have HK := Lib.hid hk
  have HFt := Lib.hid (And.intro hy (And.intro hm hd))
  clear hw hR hy hm hd hk
  unfold dayV
  go_enter Try.func12, Try.ntmps12
  go_wp2_with fail
  refine (vat_right rs ao n ca (w.alloc (.cells #[.int .i64 y, .int .i64 m, .int .i64 d] 24)) _ (Below.refl _ _) (HR.out.below ((Below.refl _ _).alloc (Nat.le_refl _) _))).mono ?_
  rintro e w1 ⟨rfl, b1⟩
  cases hT : Vt.tableB rs
  · have HF := Lib.hid (head_1 (y := y) (m := m) (d := d) (ls := ls) hT)
    have HB1 := Lib.hid (bchain (below_box HW.out _) b1)
    clear b1
    go_wp2_with fail
    go_ret
    exact ⟨ret_int HF.out.symm, HB1.out⟩
  · have HTT := Lib.hid hT
    obtain ⟨hc, hf⟩ := bcell b1
    have HB1 := Lib.hid b1
    clear b1
    go_wp2_with fail
    refine (right_date y m d _ _ HB1.out HFt.out.1 HFt.out.2.1 HFt.out.2.2).mono ?_
    rintro e w2 ⟨rfl, b2⟩
    clear hc hf
    have HB2 := Lib.hid (bchain (below_box HW.out _) b2)
    clear b2
    cases hd : Dt.rightB y m d
    · have HF := Lib.hid (head_9 (ls := ls) HTT.out hd)
      go_wp2_with fail
      go_ret
      exact ⟨ret_int HF.out.symm, HB2.out⟩
    · have HD := Lib.hid hd
      by_cases h0 : k = 0
      · have HF := Lib.hid (head_11 (ls := ls) HTT.out HD.out (HK.out ▸ h0))
        subst h0
        go_wp2_with fail
        go_ret
        exact ⟨ret_int HF.out.symm, HB2.out⟩
      · have hk0 : ((k : Int) == 0) = false := by simp; omega
        by_cases h12 : 12 < k
        · have HF := Lib.hid (head_2 (ls := ls) HTT.out HD.out (HK.out ▸ h0) (HK.out ▸ h12))
          go_wp2_with fail
          go_ret
          exact ⟨ret_int HF.out.symm, HB2.out⟩
        · have HF := Lib.hid (head_0 (ls := ls) HTT.out HD.out (HK.out ▸ h0) (HK.out ▸ h12))
          go_wp2_with fail
          go_ret
          exact ⟨ret_int HF.out.symm, HB2.out⟩
set_option maxHeartbeats 2000000 in
theorem inv_find (rs : List Rt) (x : Ln.T) (ao : Option Addr) (n ca : Nat) (y m d : Int) (w : World) (hR : Rts w ao n ca rs) (hy : Fit y) (hm : Fit m) (hd : Fit d) (hx : Ln.Short x) :
    Calls Try.prog 13 #[.slice ao n ca, dayV y m d, Ln.val x] w fun e w' => e = .returned (.tuple #[.int .i64 (Iv.askV rs y m d x), .int .i64 (Iv.askE rs y m d x)]) ∧ Below w.heap.size w w' := by
  have HFt := Lib.hid (And.intro hy (And.intro hm hd))
  have HX := Lib.hid hx
  obtain ⟨W, hW, hbW, hD, hC⟩ := boxedDL w y m d x
  have HR := Lib.hid (hR.below hbW)
  have HB := Lib.hid hbW
  have HD := Lib.hid hD
  have HC := Lib.hid hC
  unfold Ln.C at hC
  unfold DayC at hD
  obtain ⟨a0, a1, a2, a3⟩ := hC
  obtain ⟨d0, d1, d2⟩ := hD
  have hts := HX.out.1
  obtain ⟨hc1, hc2⟩ := HX.out.2.2.1
  clear hR hy hm hd hx hbW
  unfold dayV Ln.val
  by_cases h64 : 64 < x.text.size
  · have HE := Lib.hid (ask_2 (rs := rs) (y := y) (m := m) (d := d) h64)
    go_enter Try.func13, Try.ntmps13
    go_wp2_with fail
    go_ret2
    exact ⟨by unfold Iv.askV; rw [HE.out]; rfl, HB.out⟩
  · have HL := Lib.hid h64
    go_enter Try.func13, Try.ntmps13
    go_wp2_with fail
    refine (name_any x.category _ HX.out.2.1).mono ?_
    rintro e w1 ⟨rfl, b1⟩
    have hD := HD.out.below b1
    have hC := HC.out.below b1
    have HD1 := Lib.hid hD
    have HC1 := Lib.hid hC
    have HR1 := Lib.hid (HR.out.below b1)
    have HB1 := Lib.hid (bchain HB.out b1)
    clear b1 hW a0 a1 a2 a3 d0 d1 d2 HD HC HR HB h64
    unfold Ln.C at hC
    unfold DayC at hD
    obtain ⟨a0, a1, a2, a3⟩ := hC
    obtain ⟨d0, d1, d2⟩ := hD
    cases hn : Rn.name (txt x.category)
    · have HE := Lib.hid (ask_8 (rs := rs) (y := y) (m := m) (d := d) HL.out hn)
      go_wp2_with fail
      go_ret2
      exact ⟨by unfold Iv.askV; rw [HE.out]; rfl, HB1.out⟩
    · have HN := Lib.hid hn
      by_cases h1 : x.count < 1
      · have HE := Lib.hid (ask_1 (rs := rs) (y := y) (m := m) (d := d) HL.out HN.out (.inl h1))
        go_wp2_with fail
        go_ret2
        exact ⟨by unfold Iv.askV; rw [HE.out]; rfl, HB1.out⟩
      · by_cases h2 : 1048576 < x.count
        · have HE := Lib.hid (ask_1 (rs := rs) (y := y) (m := m) (d := d) HL.out HN.out (.inr h2))
          go_wp2_with fail
          go_ret2
          exact ⟨by unfold Iv.askV; rw [HE.out]; rfl, HB1.out⟩
        · have HN2 : Hid (¬ (x.count < 1 ∨ 1048576 < x.count)) := Lib.hid (by omega)
          go_wp2_with fail
          refine (vat_find rs ao n ca x.category y m d _ _ (Below.refl _ _) HR1.out HFt.out.1 HFt.out.2.1 HFt.out.2.2).mono ?_
          rintro e w2 ⟨rfl, b2⟩
          have HB2 := Lib.hid (bchain HB1.out b2)
          unfold foundE
          obtain ⟨v, f, hvf⟩ : ∃ v f, Vt.find rs x.category y m d = (v, f) := ⟨_, _, rfl⟩
          rw [hvf]
          have HV : Hid ((Vt.find rs x.category y m d).1 = v) := Lib.hid (by rw [hvf])
          cases f
          · have HE := Lib.hid (ask_10 (rs := rs) (y := y) (m := m) (d := d) HL.out HN.out HN2.out (by rw [hvf]))
            clear hvf b2
            go_wp2_with fail
            go_ret2
            exact ⟨by unfold Iv.askV; rw [HE.out]; rfl, HB2.out⟩
          · have HE := Lib.hid (ask_0 (rs := rs) (y := y) (m := m) (d := d) HL.out HN.out HN2.out (by rw [hvf]))
            clear hvf b2
            go_wp2_with fail
            go_ret2
            exact ⟨by unfold Iv.askV; rw [HE.out, HV.out]; rfl, HB2.out⟩
set_option maxHeartbeats 2000000 in
theorem inv_place (ps : List Pt.T) (c : ByteArray) (ao : Option Addr) (n cap : Nat) (w : World) (hP : Pt.Ls w ao n cap ps) :
    Calls Try.prog 29 #[.slice ao n cap, .string c] w fun e w' => e = .returned (.int .i64 (Iv.spot c ps : Nat)) ∧ w' = w := by
  have HP := Lib.hid hP
  have HN := Lib.hid hP.len
  have hcap := hP.reach
  have hfit := hP.fits
  clear hP
  go_enter Try.func29, Try.ntmps29
  go_wp2_with fail
  go_loopw [5] (fun i wr => ∃ k : Nat, k ≤ n ∧ i = .int .i64 k ∧ Hid (k + Iv.spot c (ps.drop k) = Iv.spot c ps) ∧ wr = w) (fun i _ => n - (intOf i).toNat)
  case atStart => exact ⟨0, by omega, rfl, Lib.hid (Nat.zero_add _), rfl⟩
  case round =>
    obtain ⟨k, hk, rfl, HK, rfl⟩ := hrel
    by_cases hlt : k < n
    · obtain ⟨b, off, rfl⟩ := HP.out.at (by omega)
      have hkp : k < ps.length := HN.out ▸ hlt
      obtain ⟨q, hq⟩ : ∃ q, ps[k] = q := ⟨_, rfl⟩
      have hrow := HP.out.row k hkp
      have HSt := Lib.hid (Iv.spot_at c ps k hkp)
      rw [hq] at hrow HSt
      obtain ⟨g0, g1, g2, g3⟩ := hrow
      clear hq
      unfold Iv.lt at HSt
      cases hqr : Op.bytesLess q.cat.toList c.toList
      · rw [hqr, if_neg (by simp)] at HSt
        have HSp : Hid (Iv.spot c ps = k) := Lib.hid (by rw [← HK.out, HSt.out]; rfl)
        go_wp2_with fail
        go_ret
        exact ⟨by rw [HSp.out]; rfl, rfl⟩
      · rw [hqr, if_pos rfl] at HSt
        go_wp2_with fail
        go_roundw
        case rel => exact ⟨k + 1, by omega, by go_num, Lib.hid (by rw [← HK.out, HSt.out]; omega), trivial⟩
        case measure => simp [intOf]; omega
    · obtain rfl : k = n := by omega
      have HSp : Hid (Iv.spot c ps = k) := Lib.hid (by rw [← HK.out, List.drop_eq_nil_of_le (Nat.le_of_eq HN.out.symm)]; rfl)
      go_wp2_with fail
      go_ret
      exact ⟨by rw [HSp.out]; rfl, rfl⟩
end Go.Proofs.Ythcaecinjmnlbab
