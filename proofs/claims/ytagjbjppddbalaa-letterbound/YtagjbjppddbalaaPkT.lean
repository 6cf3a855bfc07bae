/- CONTRACTS OF PACKAGE pack: a Reader: refuse, Within, Count, Text, Err, End, Read. -/
import Derived.Test.YtagjbjppddbalaaPkS
namespace Go.Proofs.Ytagjbjppddbalaa
open Go.RowKit
open Go.Sort (grow)
open Mem Pk

theorem rd_refuse (p : Nat) (ao : Option Addr) (n cap : Nat) (bs : List UInt8) (s : St) (a : Nat) (e : Int) (w : World) (hR : Rd w p ao n cap bs s) (ha : a ≤ n) :
    Calls Try.prog 57 #[.pointer (some ⟨p, 0, none⟩), .int .i64 (a : Int), .int .i64 e] w fun r w' => r = .returned (.tuple #[]) ∧ Rd w' p ao n cap bs ⟨a, e⟩ ∧ Upd w p w' := by
  have HR := Lib.hid hR
  obtain ⟨c0, c1, c2, fz, _, _, _⟩ := hR
  go_enter Try.func57, Try.ntmps57
  go_wp2
  go_end0
  exact ⟨rfl, (HR.out.at a ha).wrong e, (Upd.set _).trans (Upd.set _)⟩
/-- reading a number in bounds -/
def rWithin (bs : List UInt8) (lo hi : Int) (s : St) : Int × St := if (rNum bs s).2.err ≠ 0 then (0, (rNum bs s).2) else if (rNum bs s).1 < lo ∨ hi < (rNum bs s).1 then (0, ⟨s.at', 2⟩) else rNum bs s
theorem rWithin_wrong {bs : List UInt8} {lo hi : Int} {s : St} (h : (rNum bs s).2.err ≠ 0) : rWithin bs lo hi s = (0, (rNum bs s).2) := by unfold rWithin; rw [if_pos h]
theorem rWithin_long {bs : List UInt8} {lo hi : Int} {s : St} (h : (rNum bs s).2.err = 0) (k : (rNum bs s).1 < lo ∨ hi < (rNum bs s).1) : rWithin bs lo hi s = (0, ⟨s.at', 2⟩) := by unfold rWithin; rw [if_neg (by simp [h]), if_pos k]
theorem rWithin_ok {bs : List UInt8} {lo hi : Int} {s : St} (h : (rNum bs s).2.err = 0) (k : ¬ ((rNum bs s).1 < lo ∨ hi < (rNum bs s).1)) : rWithin bs lo hi s = rNum bs s := by unfold rWithin; rw [if_neg (by simp [h]), if_neg k]
set_option maxHeartbeats 2000000 in
theorem rd_within (p : Nat) (ao : Option Addr) (n cap : Nat) (bs : List UInt8) (lo hi : Int) (s : St) (w : World) (hR : Rd w p ao n cap bs s) :
    Calls Try.prog 62 #[.pointer (some ⟨p, 0, none⟩), .int .i64 lo, .int .i64 hi] w fun e w' => e = .returned (.int .i64 (rWithin bs lo hi s).1) ∧ Rd w' p ao n cap bs (rWithin bs lo hi s).2 ∧ Upd w p w' := by
  have HR := Lib.hid hR
  have hpl := hR.place
  have c1 := hR.c1
  clear hR
  go_enter Try.func62, Try.ntmps62
  go_wp2_with fail
  refine (rd_num p ao n cap bs s w HR.out).mono ?_
  rintro e w1 ⟨rfl, hR1, hU1⟩
  have HR1 := Lib.hid hR1
  have HU1 := Lib.hid hU1
  have d2 := hR1.c2
  clear hR1 hU1 c1
  obtain ⟨v, s1, hv⟩ : ∃ v s1, rNum bs s = (v, s1) := ⟨_, _, rfl⟩
  have HV := Lib.hid hv
  rw [hv] at HR1 d2
  rw [hv]
  dsimp only at d2 HR1 ⊢
  clear hv
  by_cases he : s1.err = 0
  · rw [he] at d2
    by_cases hb : v < lo ∨ hi < v
    · have HN : Hid (rWithin bs lo hi s = (0, ⟨s.at', 2⟩)) := Lib.hid (rWithin_long (by rw [HV.out]; exact he) (by rw [HV.out]; exact hb))
      rcases hb with hb | hb
      · go_wp2_with fail
        refine (rd_refuse p ao n cap bs s1 s.at' 2 w1 HR1.out hpl).mono ?_
        rintro e w2 ⟨rfl, hR2, hU2⟩
        have HR2 := Lib.hid hR2
        have HU2 := Lib.hid (HU1.out.trans hU2)
        clear hR2 hU2
        go_wp2_with fail
        go_ret
        exact ⟨by rw [HN.out]; rfl, by rw [HN.out]; exact HR2.out, HU2.out⟩
      · by_cases hlo : v < lo
        · go_wp2_with fail
          refine (rd_refuse p ao n cap bs s1 s.at' 2 w1 HR1.out hpl).mono ?_
          rintro e w2 ⟨rfl, hR2, hU2⟩
          have HR2 := Lib.hid hR2
          have HU2 := Lib.hid (HU1.out.trans hU2)
          clear hR2 hU2
          go_wp2_with fail
          go_ret
          exact ⟨by rw [HN.out]; rfl, by rw [HN.out]; exact HR2.out, HU2.out⟩
        · go_wp2_with fail
          refine (rd_refuse p ao n cap bs s1 s.at' 2 w1 HR1.out hpl).mono ?_
          rintro e w2 ⟨rfl, hR2, hU2⟩
          have HR2 := Lib.hid hR2
          have HU2 := Lib.hid (HU1.out.trans hU2)
          clear hR2 hU2
          go_wp2_with fail
          go_ret
          exact ⟨by rw [HN.out]; rfl, by rw [HN.out]; exact HR2.out, HU2.out⟩
    · have HN : Hid (rWithin bs lo hi s = (v, s1)) := Lib.hid (by rw [rWithin_ok (by rw [HV.out]; exact he) (by rw [HV.out]; exact hb), HV.out])
      have hb1 : ¬ v < lo := fun h => hb (.inl h)
      have hb2 : ¬ hi < v := fun h => hb (.inr h)
      clear hb
      go_wp2_with fail
      go_ret
      exact ⟨by rw [HN.out]; rfl, by rw [HN.out]; exact HR1.out, HU1.out⟩
  · have HN : Hid (rWithin bs lo hi s = (0, s1)) := Lib.hid (by rw [rWithin_wrong (by rw [HV.out]; exact he), HV.out])
    have hne : (s1.err != 0) = true := bne_iff_ne.2 he
    go_wp2_with fail
    go_ret
    exact ⟨by rw [HN.out]; rfl, by rw [HN.out]; exact HR1.out, HU1.out⟩
end Go.Proofs.Ytagjbjppddbalaa
