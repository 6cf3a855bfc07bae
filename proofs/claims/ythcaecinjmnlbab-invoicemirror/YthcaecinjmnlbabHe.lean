/- MERGED: VatA, RefName, RefDate, RefVat, RefTable, VatR, RefFind, VatF. (By mg11.py.) -/
import Derived.Test.YthcaecinjmnlbabHd
import Derived.Lib.QuietBelow
/- CONTRACTS OF PACKAGE vat: Row, ahead, bare. -/
namespace Go.Proofs.Ythcaecinjmnlbab
open Go.RowKit
open Vt (Rt)

set_option maxHeartbeats 1000000 in
theorem vat_row (r : Rt) (w0 w : World) (hw : Below w0.heap.size w0 w) (hs : Short r) :
    Calls Try.prog 22 #[rowV r] w fun e w' => e = .returned (.int .i64 (Vt.rowE r)) ∧ Below w0.heap.size w0 w' := by
  have HW := Lib.hid hw
  have HS := Lib.hid hs
  clear hw hs
  obtain ⟨cat, y, m, d, bp⟩ := r
  unfold rowV Short at *
  dsimp only at *
  go_enter Try.func22, Try.ntmps22
  go_wp2_with fail
  refine (name_any cat _ HS.out.1).mono ?_
  rintro e w1 ⟨rfl, b1⟩
  have hC := (rowC_box w ⟨cat, y, m, d, bp⟩).below b1
  have HC := Lib.hid hC
  unfold RowC at hC
  obtain ⟨c0, c1, c2, c3, c4⟩ := hC
  have HB1 := Lib.hid (bchain (below_box HW.out _) b1)
  clear b1
  cases hn : Rn.name (txt cat)
  · have HE := Lib.hid (Vt.rowE_name (r := ⟨cat, y, m, d, bp⟩) hn)
    go_wp2_with fail
    go_ret
    exact ⟨ret_int HE.out.symm, HB1.out⟩
  · have HN := Lib.hid hn
    go_wp2_with fail
    refine (right_date y m d _ _ (Below.refl _ _) HS.out.2.1 HS.out.2.2.1 HS.out.2.2.2.1).mono ?_
    rintro e w2 ⟨rfl, b2⟩
    have hC := HC.out.below b2
    unfold RowC at hC
    obtain ⟨c5, c6, c7, c8, c9⟩ := hC
    have HB2 := Lib.hid (bchain HB1.out b2)
    clear b2
    cases hr : Dt.rightB y m d
    · have HE := Lib.hid (Vt.rowE_day (r := ⟨cat, y, m, d, bp⟩) HN.out hr)
      go_wp2_with fail
      go_ret
      exact ⟨ret_int HE.out.symm, HB2.out⟩
    · have HR := Lib.hid hr
      by_cases h0 : bp < 0
      · have HE := Lib.hid (Vt.rowE_bp (r := ⟨cat, y, m, d, bp⟩) HN.out HR.out (.inl h0))
        go_wp2_with fail
        go_ret
        exact ⟨ret_int HE.out.symm, HB2.out⟩
      · by_cases h1 : 100000 < bp
        · have HE := Lib.hid (Vt.rowE_bp (r := ⟨cat, y, m, d, bp⟩) HN.out HR.out (.inr h1))
          go_wp2_with fail
          go_ret
          exact ⟨ret_int HE.out.symm, HB2.out⟩
        · have HE := Lib.hid (Vt.rowE_0 (r := ⟨cat, y, m, d, bp⟩) |>.2 ⟨HN.out, HR.out, Int.not_lt.1 h0, Int.not_lt.1 h1⟩)
          go_wp2_with fail
          go_ret
          exact ⟨ret_int HE.out.symm, HB2.out⟩
theorem less_self (a : Rt) : Op.bytesLess a.cat.toList a.cat.toList = false := Vt.less_irrefl _
set_option maxHeartbeats 1000000 in
/-- of right days alone: Before asks for them -/
theorem vat_ahead (a b : Rt) (w0 w : World) (hw : Below w0.heap.size w0 w) (ha : Short a) (hb : Short b) (ra : Dt.rightB a.y a.m a.d = true) (rb : Dt.rightB b.y b.m b.d = true) :
    Calls Try.prog 34 #[rowV a, rowV b] w fun e w' => e = .returned (.bool (Vt.lt a b)) ∧ Below w0.heap.size w0 w' := by
  have HW := Lib.hid hw
  have HA := Lib.hid ha
  have HB := Lib.hid hb
  have HRR := Lib.hid (ahead_both ra rb)
  clear hw ha hb ra rb
  obtain ⟨W, hW, hbW, hA, hB⟩ := boxed2 w a b
  have HBW : Hid (Below w0.heap.size w0 W) := Lib.hid (bchain HW.out hbW)
  unfold RowC at hA hB
  obtain ⟨a0, a1, a2, a3, a4⟩ := hA
  obtain ⟨b0, b1, b2, b3, b4⟩ := hB
  by_cases hc : a.cat = b.cat
  · have HL := Lib.hid (Vt.lt_same hc)
    have hy : (a.cat.toList == b.cat.toList) = true := beq_iff_eq.2 (by rw [hc])
    have hlf : Op.bytesLess a.cat.toList b.cat.toList = false := by rw [hc]; exact less_self b
    have e1 : Hid (Vt.dy a = Dt.days a.y a.m a.d) := rfl
    have e2 : Hid (Vt.dy b = Dt.days b.y b.m b.d) := rfl
    clear hbW hc
    unfold rowV
    go_enter Try.func34, Try.ntmps34
    go_wp2_with fail
    refine (before_date a.y a.m a.d b.y b.m b.d w0 _ HBW.out HA.out.2.1 HA.out.2.2.1 HA.out.2.2.2.1 HB.out.2.1 HB.out.2.2.1 HB.out.2.2.2.1).mono ?_
    rintro e w1 ⟨rfl, b5⟩
    have HB1 := Lib.hid b5
    clear b5
    go_wp2_with fail
    go_ret
    exact ⟨ret_bool (by rw [HL.out, e1.out, e2.out, HRR.out]), HB1.out⟩
  · have HL := Lib.hid (Vt.lt_other hc)
    have hy : (a.cat.toList == b.cat.toList) = false := beq_eq_false_iff_ne.2 fun k => hc (Vt.cat_ext k)
    clear hbW hc
    unfold rowV
    cases hl : Op.bytesLess a.cat.toList b.cat.toList
    · go_enter Try.func34, Try.ntmps34
      go_wp2_with fail
      go_ret
      exact ⟨ret_bool (by rw [HL.out, hl]), HBW.out⟩
    · go_enter Try.func34, Try.ntmps34
      go_wp2_with fail
      go_ret
      exact ⟨ret_bool (by rw [HL.out, hl]), HBW.out⟩
theorem vat_bare (r : Rt) (w0 w : World) (hw : Below w0.heap.size w0 w) :
    Calls Try.prog 35 #[rowV r] w fun e w' => e = .returned (rowV { r with bp := 0 }) ∧ Below w0.heap.size w0 w' := by
  have HW := Lib.hid hw
  clear hw
  obtain ⟨cat, y, m, d, bp⟩ := r
  unfold rowV
  go_enter Try.func35, Try.ntmps35
  go_wp2
  exact bodyPost_ret (v := rowV ⟨cat, y, m, d, 0⟩) (by simp [results, rowV, Try.results35, go_sem]) rfl ⟨rfl, below_box (below_box HW.out _) _⟩
end Go.Proofs.Ythcaecinjmnlbab

/- THE DOCUMENT's OWN ANSWER: impostref3's Letter, Name. -/
namespace Go.Proofs.Ythcaecinjmnlbab
open Go.RowKit

end Go.Proofs.Ythcaecinjmnlbab

/- THE DOCUMENT's OWN ANSWER: impostref3's leap, Length, Right, Days. -/
namespace Go.Proofs.Ythcaecinjmnlbab
open Go.RowKit

end Go.Proofs.Ythcaecinjmnlbab

/- THE DOCUMENT's OWN ANSWER: impostref3's Row, before. -/
namespace Go.Proofs.Ythcaecinjmnlbab
open Go.RowKit
open Vt (Rt)

end Go.Proofs.Ythcaecinjmnlbab

/- THE DOCUMENT's OWN ANSWER: impostref3's Table. -/
namespace Go.Proofs.Ythcaecinjmnlbab
open Go.RowKit
open Vt (Rt)
open Go.Sort (grow)

def Ans (f : FuncId) (args : Array Value) (u : World) (i : Nat) (os : Array Obj) (v : Value) : Prop :=
  Calls Try.prog f args (grow (redrawn u i) os) fun e w'' => e = .returned v ∧ ∃ p : Regrown, w'' = grow (redrawn u p.d) p.os
end Go.Proofs.Ythcaecinjmnlbab

/- CONTRACTS OF PACKAGE vat: Right. -/
namespace Go.Proofs.Ythcaecinjmnlbab
open Go.RowKit
open Vt (Rt)
open Go.Sort (grow)

theorem vatRow_agg (r : Rt) (hs : Short r) (u : World) (i : Nat) (os : Array Obj) : Ans 22 #[.agg #[.string r.cat, .int .i64 r.y, .int .i64 r.m, .int .i64 r.d, .int .i64 r.bp]] u i os (.int .i64 (Vt.rowE r)) :=
  Calls.regrown_of (vat_row r _ _ (Below.refl _ _) hs)
theorem vatAhead_agg (a b : Rt) (ha : Short a) (hb : Short b) (ra : Vt.rowE a = 0) (rb : Vt.rowE b = 0) (u : World) (i : Nat) (os : Array Obj) : Ans 34 #[.agg #[.string a.cat, .int .i64 a.y, .int .i64 a.m, .int .i64 a.d, .int .i64 a.bp], .agg #[.string b.cat, .int .i64 b.y, .int .i64 b.m, .int .i64 b.d, .int .i64 b.bp]] u i os (.bool (Vt.lt a b)) :=
  Calls.regrown_of (vat_ahead a b _ _ (Below.refl _ _) ha hb (Vt.rowE_0.1 ra).2.1 (Vt.rowE_0.1 rb).2.1)
set_option maxHeartbeats 2000000 in
theorem vat_right (rs : List Rt) (ao : Option Addr) (n cap : Nat) (w0 w : World) (hw : Below w0.heap.size w0 w) (hR : Rts w ao n cap rs) :
    Calls Try.prog 21 #[.slice ao n cap] w fun e w' => e = .returned (.bool (Vt.tableB rs)) ∧ Below w0.heap.size w0 w' := by
  have HW := Lib.hid hw
  have HR := Lib.hid hR
  have HN := Lib.hid hR.len
  have hcap := hR.reach
  have hfit := hR.fits
  clear hw hR
  by_cases h24 : 24 < n
  · have HT := Lib.hid (Vt.table_long (l := rs) (HN.out ▸ h24))
    go_enter Try.func21, Try.ntmps21
    go_wp2
    go_ret
    exact ⟨ret_bool HT.out.symm, HW.out⟩
  · have HT := Lib.hid (Vt.table_short (l := rs) (by have := HN.out; omega))
    go_enter Try.func21, Try.ntmps21
    go_wp2
    go_loopw [3, 4, 10] (fun _ _ i wr => ∃ k : Nat, k ≤ n ∧ i = .int .i64 k ∧ Hid (Vt.okAll (Vt.prevAt rs k) (rs.drop k) = Vt.okAll none rs) ∧ Hid (∀ q, Vt.prevAt rs k = some q → Vt.rowE q = 0) ∧ Hid (Below w.heap.size w wr)) (fun _ _ i _ => n - (intOf i).toNat)
    case atStart => exact ⟨0, by omega, rfl, Lib.hid rfl, Lib.hid (fun q h => by unfold Vt.prevAt at h; rw [if_pos rfl] at h; cases h), Lib.hid (Below.refl _ _)⟩
    case round =>
      obtain ⟨k, hk, rfl, HK, HQ, HB⟩ := hrel
      by_cases hlt : k < n
      · obtain ⟨b, off, rfl⟩ := HR.out.at (by omega)
        have hkr : k < rs.length := HN.out ▸ hlt
        obtain ⟨r, hr⟩ : ∃ r, rs[k] = r := ⟨_, rfl⟩
        have hrow := (HR.out.row k hkr).below HB.out
        have HSt := Lib.hid (Vt.okAll_at rs k hkr)
        have HPr : Hid (Vt.prevAt rs (k + 1) = some r) := Lib.hid (by unfold Vt.prevAt; rw [if_neg (by omega), Nat.add_sub_cancel, List.getElem?_eq_getElem hkr, hr])
        rw [hr] at hrow HSt
        have hsh : Short r := HR.out.short r (hr ▸ List.getElem_mem hkr)
        obtain ⟨g0, g1, g2, g3, g4⟩ := hrow
        obtain ⟨W, hW, hbW, hA⟩ := boxed1 wr r
        have HBW := Lib.hid (bchain HB.out hbW)
        clear hbW
        unfold RowC at hA
        obtain ⟨a0, a1, a2, a3, a4⟩ := hA
        have k0 := cell_regrown a0
        have k1 := cell_regrown a1
        have k2 := cell_regrown a2
        have k3 := cell_regrown a3
        have k4 := cell_regrown a4
        have c1 := vatRow_agg r hsh
        by_cases he : Vt.rowE r = 0
        · have hne : (Vt.rowE r != 0) = false := by rw [he]; rfl
          by_cases hk0 : k = 0
          · subst hk0
            simp only [Nat.zero_mul, Nat.add_zero] at g0 g1 g2 g3 g4
            have HO : Hid (Vt.ok (Vt.prevAt rs 0) r = true) := by
              show _ = _
              unfold Vt.ok Vt.prevAt
              rw [decide_eq_true he]
              rfl
            have HE := Lib.hid he
            clear he hr hsh
            go_wp2
            refine wp_region_quiet_below (by kernel_rfl) (by kernel_rfl) ?_
            repeat (first | go_big_quiet_step (first | (go_at_call 22; exact c1 _ _ _)) | quiet_step (first | (go_at_call 22; exact c1 _ _ _)))
            refine wpQuiet_nil ?_
            intro _ hw'
            obtain ⟨⟨dq, osq⟩, hw''⟩ := hw'
            subst hw''
            have HBv := Lib.hid (bchain HBW.out (below_regrown W dq osq))
            go_wp2
            go_roundw
            case rel => exact ⟨1, by omega, rfl, Lib.hid (by rw [← HK.out, HSt.out, HO.out, Bool.true_and]), Lib.hid (fun q h => by rw [HPr.out] at h; cases h; exact HE.out), HBv⟩
            case measure => simp [intOf]; omega
          · obtain ⟨j, rfl⟩ : ∃ j, k = j + 1 := ⟨k - 1, by omega⟩
            have hjr : j < rs.length := by omega
            obtain ⟨q, hq⟩ : ∃ q, rs[j] = q := ⟨_, rfl⟩
            have hrow2 := (HR.out.row j hjr).below HBW.out
            have hqs : Short q := HR.out.short q (hq ▸ List.getElem_mem hjr)
            rw [hq] at hrow2
            obtain ⟨f0, f1, f2, f3, f4⟩ := hrow2
            have m0 := cell_regrown f0
            have m1 := cell_regrown f1
            have m2 := cell_regrown f2
            have m3 := cell_regrown f3
            have m4 := cell_regrown f4
            have hpj : Vt.prevAt rs (j + 1) = some q := by unfold Vt.prevAt; rw [if_neg (by omega), Nat.add_sub_cancel, List.getElem?_eq_getElem hjr, hq]
            have c2 := vatAhead_agg q r hqs hsh (HQ.out q hpj) he
            have HO : Hid (Vt.ok (Vt.prevAt rs (j + 1)) r = Vt.lt q r) := by
              show _ = _
              unfold Vt.ok
              rw [decide_eq_true he, hpj]
              rfl
            have hjs : ((j + 1 : Nat) : Int) - 1 = (j : Int) := by omega
            have HE := Lib.hid he
            clear he hq hk0 hpj hr hsh hqs
            cases hlt2 : Vt.lt q r
            · rw [hlt2] at c2 HO
              go_wp2
              refine wp_region_quiet_below (by kernel_rfl) (by kernel_rfl) ?_
              repeat (first | go_big_quiet_step (first | (go_at_call 22; exact c1 _ _ _) | (go_at_call 34; exact c2 _ _ _)) | quiet_step (first | (go_at_call 22; exact c1 _ _ _) | (go_at_call 34; exact c2 _ _ _)))
              refine wpQuiet_nil ?_
              intro _ hw'
              obtain ⟨⟨dq, osq⟩, hw''⟩ := hw'
              subst hw''
              have HBv := Lib.hid (bchain HBW.out (below_regrown W dq osq))
              go_wp2
              go_ret
              exact ⟨ret_bool (by rw [HT.out, ← HK.out, HSt.out, HO.out, Bool.false_and]), bchain HW.out HBv.out⟩
            · rw [hlt2] at c2 HO
              go_wp2
              refine wp_region_quiet_below (by kernel_rfl) (by kernel_rfl) ?_
              repeat (first | go_big_quiet_step (first | (go_at_call 22; exact c1 _ _ _) | (go_at_call 34; exact c2 _ _ _)) | quiet_step (first | (go_at_call 22; exact c1 _ _ _) | (go_at_call 34; exact c2 _ _ _)))
              refine wpQuiet_nil ?_
              intro _ hw'
              obtain ⟨⟨dq, osq⟩, hw''⟩ := hw'
              subst hw''
              have HBv := Lib.hid (bchain HBW.out (below_regrown W dq osq))
              go_wp2
              go_roundw
              case rel => exact ⟨j + 1 + 1, by omega, by go_num, Lib.hid (by rw [← HK.out, HSt.out, HO.out, Bool.true_and]), Lib.hid (fun q h => by rw [HPr.out] at h; cases h; exact HE.out), HBv⟩
              case measure => simp [intOf]; omega
        · have hne : (Vt.rowE r != 0) = true := bne_iff_ne.2 he
          have HO : Hid (Vt.ok (Vt.prevAt rs k) r = false) := by
            show _ = _
            unfold Vt.ok
            rw [decide_eq_false he]
            rfl
          clear he hr hsh
          go_wp2
          refine wp_region_quiet_below (by kernel_rfl) (by kernel_rfl) ?_
          repeat (first | go_big_quiet_step (first | (go_at_call 22; exact c1 _ _ _)) | quiet_step (first | (go_at_call 22; exact c1 _ _ _)))
          refine wpQuiet_nil ?_
          intro _ hw'
          obtain ⟨⟨dq, osq⟩, hw''⟩ := hw'
          subst hw''
          have HBv := Lib.hid (bchain HBW.out (below_regrown W dq osq))
          go_wp2
          go_ret
          exact ⟨ret_bool (by rw [HT.out, ← HK.out, HSt.out, HO.out, Bool.false_and]), bchain HW.out HBv.out⟩
      · obtain rfl : k = n := by omega
        go_wp2
        go_ret
        exact ⟨ret_bool (by rw [HT.out, ← HK.out, List.drop_eq_nil_of_le (Nat.le_of_eq HN.out.symm)]; rfl), bchain HW.out HB.out⟩
end Go.Proofs.Ythcaecinjmnlbab

/- THE DOCUMENT's OWN ANSWER: impostref3's Find. -/
namespace Go.Proofs.Ythcaecinjmnlbab
open Go.RowKit
open Vt (Rt)
open Go.Sort (grow)

/-- what Find answers -/
def foundE (p : Int × Bool) : Ending := .returned (.tuple #[.int .i64 p.1, .bool p.2])
theorem last_at (c : ByteArray) (n : Int) (acc : Int × Bool) (rs : List Rt) (k : Nat) (h : k < rs.length) : Vt.last c n acc (rs.drop k) = Vt.last c n (if Vt.hit c n rs[k] = true then (rs[k].bp, true) else acc) (rs.drop (k + 1)) := by
  rw [List.drop_eq_getElem_cons h]
  rfl
theorem hit_yes {c : ByteArray} {n : Int} {r : Rt} (h : r.cat = c) (k : Vt.dy r ≤ n) : Vt.hit c n r = true := by
  unfold Vt.hit
  rw [decide_eq_true h, decide_eq_true k]
  rfl
theorem hit_no {c : ByteArray} {n : Int} {r : Rt} (h : r.cat ≠ c ∨ ¬ Vt.dy r ≤ n) : Vt.hit c n r = false := by
  unfold Vt.hit
  rcases h with h | h
  · rw [decide_eq_false h]; rfl
  · rw [decide_eq_false h, Bool.and_false]
end Go.Proofs.Ythcaecinjmnlbab

/- CONTRACTS OF PACKAGE vat: Find. -/
namespace Go.Proofs.Ythcaecinjmnlbab
open Go.RowKit
open Vt (Rt)
open Go.Sort (grow)

set_option maxHeartbeats 2000000 in
theorem vat_find (rs : List Rt) (ao : Option Addr) (n cap : Nat) (c : ByteArray) (y m d : Int) (w0 w : World) (hw : Below w0.heap.size w0 w) (hR : Rts w ao n cap rs) (hy : Fit y) (hm : Fit m) (hd : Fit d) :
    Calls Try.prog 27 #[.slice ao n cap, .string c, dayV y m d] w fun e w' => e = foundE (Vt.find rs c y m d) ∧ Below w0.heap.size w0 w' := by
  have HW := Lib.hid hw
  have HR := Lib.hid hR
  have HN := Lib.hid hR.len
  have HFt := Lib.hid (And.intro hy (And.intro hm hd))
  have hcap := hR.reach
  have hfit := hR.fits
  clear hw hR hy hm hd
  unfold dayV
  go_enter Try.func27, Try.ntmps27
  go_wp2_with fail
  refine (vat_right rs ao n cap (w.alloc (.cells #[.int .i64 y, .int .i64 m, .int .i64 d] 24)) _ (Below.refl _ _) (HR.out.below ((Below.refl _ _).alloc (Nat.le_refl _) _))).mono ?_
  rintro e w1 ⟨rfl, b1⟩
  cases hT : Vt.tableB rs
  · have HF := Lib.hid (Vt.find_not (c := c) (y := y) (m := m) (d := d) (.inl hT))
    have HB1 := Lib.hid (bchain (below_box HW.out _) b1)
    clear b1
    go_wp2_with fail
    go_ret2
    exact ⟨by rw [HF.out]; rfl, HB1.out⟩
  · have HTT := Lib.hid hT
    obtain ⟨hc, hf⟩ := bcell b1
    have HB1 := Lib.hid b1
    clear b1
    go_wp2_with fail
    refine (right_date y m d _ _ HB1.out HFt.out.1 HFt.out.2.1 HFt.out.2.2).mono ?_
    rintro e w2 ⟨rfl, b2⟩
    clear hc hf
    have HB2 := Lib.hid b2
    cases hd : Dt.rightB y m d
    · have HF := Lib.hid (Vt.find_not (l := rs) (c := c) (.inr hd))
      have HB3 := Lib.hid (bchain (below_box HW.out _) b2)
      clear b2
      go_wp2_with fail
      go_ret2
      exact ⟨by rw [HF.out]; rfl, HB3.out⟩
    · have HF := Lib.hid (Vt.find_right (c := c) HTT.out hd)
      have HD := Lib.hid hd
      clear b2
      go_wp2_with fail
      go_loopw [8, 9, 11, 22] (fun t o _ i wr => ∃ (k : Nat) (x : Int) (f : Bool), k ≤ n ∧ i = .int .i64 k ∧ t = .int .i64 x ∧ o = .bool f ∧ Hid (Vt.last c (Dt.days y m d) (x, f) (rs.drop k) = Vt.last c (Dt.days y m d) (0, false) rs) ∧ Hid (Below (w.alloc (.cells #[.int .i64 y, .int .i64 m, .int .i64 d] 24)).heap.size (w.alloc (.cells #[.int .i64 y, .int .i64 m, .int .i64 d] 24)) wr)) (fun _ _ _ i _ => n - (intOf i).toNat)
      case atStart => exact ⟨0, 0, false, by omega, rfl, rfl, rfl, Lib.hid rfl, HB2⟩
      case round =>
        rename World => wz
        obtain ⟨k, x, f, hk, rfl, rfl, rfl, HK, HB⟩ := hrel
        by_cases hlt : k < n
        · obtain ⟨b, off, rfl⟩ := HR.out.at (by omega)
          have hkr : k < rs.length := HN.out ▸ hlt
          obtain ⟨r, hr⟩ : ∃ r, rs[k] = r := ⟨_, rfl⟩
          have hrow := (HR.out.row k hkr).below (bchain ((Below.refl _ _).alloc (Nat.le_refl _) _) HB.out)
          have HSt := Lib.hid (last_at c (Dt.days y m d) (x, f) rs k hkr)
          rw [hr] at hrow HSt
          have hmem : r ∈ rs := hr ▸ List.getElem_mem hkr
          have HSh := Lib.hid (HR.out.short r hmem)
          have HRr := Lib.hid (ahead_both HD.out (Vt.rowE_0.1 (((Vt.table_iff rs).1 HTT.out).2.1 r hmem)).2.1)
          clear hr hmem
          obtain ⟨g0, g1, g2, g3, g4⟩ := hrow
          obtain ⟨W, hW, hbW, hA⟩ := boxed1 wz r
          have HBW := Lib.hid (bchain HB.out hbW)
          have HA := Lib.hid hA
          clear hbW
          unfold RowC at hA
          obtain ⟨a0, a1, a2, a3, a4⟩ := hA
          obtain ⟨hc, hf⟩ := bcell HBW.out
          have e0 : W.cell? ⟨w.heap.size, 0, none⟩ = some (.int .i64 y) := by rw [hc _ _ (by simp)]; simp
          have e1 : W.cell? ⟨w.heap.size, 1, none⟩ = some (.int .i64 m) := by rw [hc _ _ (by simp)]; simp
          have e2 : W.cell? ⟨w.heap.size, 2, none⟩ = some (.int .i64 d) := by rw [hc _ _ (by simp)]; simp
          clear hc hf
          by_cases hcat : r.cat = c
          · have hq : (r.cat.toList == c.toList) = true := beq_iff_eq.2 (by rw [hcat])
            by_cases hdy : Vt.dy r ≤ Dt.days y m d
            · have HH := Lib.hid (hit_yes hcat hdy)
              have HL : Hid (aheadB y m d r.y r.m r.d = false) := Lib.hid (by rw [HRr.out]; exact decide_eq_false (by have h : Dt.days r.y r.m r.d ≤ Dt.days y m d := hdy; omega))
              clear hcat hdy
              go_wp2_with fail
              refine (before_date y m d r.y r.m r.d W _ (Below.refl _ _) HFt.out.1 HFt.out.2.1 HFt.out.2.2 HSh.out.2.1 HSh.out.2.2.1 HSh.out.2.2.2.1).mono ?_
              rintro e w3 ⟨rfl, b3⟩
              rw [HL.out]
              have HBv := Lib.hid (bchain HBW.out b3)
              have hA := HA.out.below b3
              unfold RowC at hA
              obtain ⟨d0, d1, d2, d3, d4⟩ := hA
              clear b3
              go_wp2_with fail
              go_roundw
              case rel => exact ⟨k + 1, r.bp, true, by omega, by go_num, rfl, rfl, Lib.hid (by rw [← HK.out, HSt.out, HH.out]; rfl), HBv⟩
              case measure => simp [intOf]; omega
            · have HH := Lib.hid (hit_no (c := c) (.inr hdy))
              have HL : Hid (aheadB y m d r.y r.m r.d = true) := Lib.hid (by rw [HRr.out]; exact decide_eq_true (by have h : ¬ Dt.days r.y r.m r.d ≤ Dt.days y m d := hdy; omega))
              clear hcat hdy
              go_wp2_with fail
              refine (before_date y m d r.y r.m r.d W _ (Below.refl _ _) HFt.out.1 HFt.out.2.1 HFt.out.2.2 HSh.out.2.1 HSh.out.2.2.1 HSh.out.2.2.2.1).mono ?_
              rintro e w3 ⟨rfl, b3⟩
              rw [HL.out]
              have HBv := Lib.hid (bchain HBW.out b3)
              clear b3
              go_wp2_with fail
              go_roundw
              case rel => exact ⟨k + 1, x, f, by omega, by go_num, rfl, rfl, Lib.hid (by rw [← HK.out, HSt.out, HH.out]; rfl), HBv⟩
              case measure => simp [intOf]; omega
          · have hq : (r.cat.toList == c.toList) = false := beq_eq_false_iff_ne.2 fun e => hcat (Vt.cat_ext e)
            have HH := Lib.hid (hit_no (n := Dt.days y m d) (.inl hcat))
            clear hcat
            go_wp2_with fail
            go_roundw
            case rel => exact ⟨k + 1, x, f, by omega, by go_num, rfl, rfl, Lib.hid (by rw [← HK.out, HSt.out, HH.out]; rfl), HBW⟩
            case measure => simp [intOf]; omega
        · obtain rfl : k = n := by omega
          go_wp2
          go_ret2
          refine ⟨?_, bchain (below_box HW.out _) HB.out⟩
          rw [HF.out, ← HK.out, List.drop_eq_nil_of_le (Nat.le_of_eq HN.out.symm)]
          rfl
end Go.Proofs.Ythcaecinjmnlbab
