/- THE DOCUMENT's OWN ANSWER: impostref8's Of. -/
import Derived.Test.YtfmfeagfinnmmabRefKindL
namespace Go.Proofs.Ytfmfeagfinnmmab
open Go.RowKit
open Vl (T)
open Mem

theorem ofE_long {l : List T} (h : 200 < l.length) : Kd.ofE l = 2 := if_pos h
theorem ofE_bad {l : List T} {e : Int} (h : ¬ 200 < l.length) (k : Kd.walkL 17 l = .inl e) : Kd.ofE l = e := by
  unfold Kd.ofE
  rw [if_neg h, k]
theorem ofE_ok {l : List T} (h : ¬ 200 < l.length) (k : Kd.walkL 17 l = .inr []) : Kd.ofE l = 0 := by
  unfold Kd.ofE
  rw [if_neg h, k]
theorem ofE_tail {l r : List T} {x : T} (h : ¬ 200 < l.length) (k : Kd.walkL 17 l = .inr (x :: r)) : Kd.ofE l = 5 := by
  unfold Kd.ofE
  rw [if_neg h, k]
set_option maxHeartbeats 1000000 in
theorem refKindOf_any (l : List T) (ao : Option Addr) (n cap : Nat) (w0 w : World) (hw : Below w0.heap.size w0 w) (hL : Vl.Ls w ao n cap l) :
    Calls Try.prog 5 #[.slice ao n cap] w fun e w' => e = .returned (.int .i64 (Kd.ofE l)) ∧ Below w0.heap.size w0 w' := by
  have HW := Lib.hid hw
  have HL := Lib.hid hL
  have HN := Lib.hid hL.len
  have hcap := hL.reach
  have hfit := hL.fits
  clear hw hL
  by_cases h200 : 200 < n
  · have HE := Lib.hid (ofE_long (l := l) (HN.out ▸ h200))
    go_enter Try.func5, Try.ntmps5
    go_wp2_with fail
    go_ret
    exact ⟨ret_int HE.out.symm, HW.out⟩
  · have HS : Hid (¬ 200 < l.length) := Lib.hid (HN.out ▸ h200)
    have hwk := walk_any l ao n cap (by omega) 16 0 0 w0 w rfl (by omega) HW.out HL.out
    unfold walkP at hwk
    rw [List.drop_zero] at hwk
    go_enter Try.func5, Try.ntmps5
    go_wp2_with fail
    refine hwk.mono ?_
    rintro e w1 ⟨hW, b1⟩
    have HB1 := Lib.hid b1
    clear b1 hwk
    cases hr : Kd.walkL 17 l with
    | inl k =>
      rw [hr] at hW
      obtain ⟨p, rfl⟩ := hW
      have HE := Lib.hid (ofE_bad HS.out hr)
      have hk : (k == 0) = false := beq_eq_false_iff_ne.2 (Kd.walk_ne hr)
      clear hr
      unfold both
      go_wp2_with fail
      go_ret
      exact ⟨ret_int HE.out.symm, HB1.out⟩
    | inr rest =>
      rw [hr] at hW
      obtain ⟨p, rfl, hp, hrest⟩ := hW
      unfold both
      by_cases hlt : p < n
      · have HE : Hid (Kd.ofE l = 5) := Lib.hid (by
          have hpl : p < l.length := HN.out ▸ hlt
          rw [hrest, List.drop_eq_getElem_cons hpl] at hr
          exact ofE_tail HS.out hr)
        clear hr hrest
        go_wp2_with fail
        go_ret
        exact ⟨ret_int HE.out.symm, HB1.out⟩
      · have HE : Hid (Kd.ofE l = 0) := Lib.hid (by
          rw [hrest, List.drop_eq_nil_of_le (by rw [← HN.out]; omega)] at hr
          exact ofE_ok HS.out hr)
        clear hr hrest
        go_wp2_with fail
        go_ret
        exact ⟨ret_int HE.out.symm, HB1.out⟩
end Go.Proofs.Ytfmfeagfinnmmab
