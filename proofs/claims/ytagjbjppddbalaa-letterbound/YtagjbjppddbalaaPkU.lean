/- CONTRACTS OF PACKAGE pack: a Reader: Count, Text, Err, End, Read. -/
import Derived.Test.YtagjbjppddbalaaPkT
namespace Go.Proofs.Ytagjbjppddbalaa
open Go.RowKit
open Go.Sort (grow)
open Mem Pk

/-- reading how many things are to come -/
def rCount (bs : List UInt8) (most : Int) (s : St) : Int × St := if (bs.length : Int) - ((rWithin bs 0 most s).2.at' : Int) < (rWithin bs 0 most s).1 then (0, ⟨s.at', 3⟩) else rWithin bs 0 most s
theorem rCount_short {bs : List UInt8} {most : Int} {s : St} (h : (bs.length : Int) - ((rWithin bs 0 most s).2.at' : Int) < (rWithin bs 0 most s).1) : rCount bs most s = (0, ⟨s.at', 3⟩) := by unfold rCount; rw [if_pos h]
theorem rCount_ok {bs : List UInt8} {most : Int} {s : St} (h : ¬ (bs.length : Int) - ((rWithin bs 0 most s).2.at' : Int) < (rWithin bs 0 most s).1) : rCount bs most s = rWithin bs 0 most s := by unfold rCount; rw [if_neg h]
theorem rNum_fit (bs : List UInt8) (s : St) : Fit (rNum bs s).1 := by
  have f0 : Fit 0 := ⟨by omega, by omega⟩
  unfold rNum
  split
  · exact f0
  · cases h : num (bs.drop s.at') with
    | inl e => exact f0
    | inr q =>
      obtain ⟨u, z⟩ := q
      exact uz_fit (num_is h).2.2.1
theorem rWithin_fit (bs : List UInt8) (lo hi : Int) (s : St) : Fit (rWithin bs lo hi s).1 := by
  have f0 : Fit 0 := ⟨by omega, by omega⟩
  unfold rWithin
  split
  · exact f0
  · split
    · exact f0
    · exact rNum_fit bs s
theorem rWithin_pos (bs : List UInt8) (hi : Int) (s : St) : 0 ≤ (rWithin bs 0 hi s).1 := by
  unfold rWithin
  split
  · exact Int.le_refl _
  · split
    · exact Int.le_refl _
    · omega
set_option maxHeartbeats 2000000 in
theorem rd_count (p : Nat) (ao : Option Addr) (n cap : Nat) (bs : List UInt8) (most : Int) (s : St) (w : World) (hR : Rd w p ao n cap bs s) :
    Calls Try.prog 58 #[.pointer (some ⟨p, 0, none⟩), .int .i64 most] w fun e w' => e = .returned (.int .i64 (rCount bs most s).1) ∧ Rd w' p ao n cap bs (rCount bs most s).2 ∧ Upd w p w' := by
  have HR := Lib.hid hR
  have hpl := hR.place
  have c1 := hR.c1
  have hcap := hR.ls.reach
  have hfit := hR.ls.fits
  have HLen := Lib.hid hR.ls.len
  clear hR
  go_enter Try.func58, Try.ntmps58
  go_wp2_with fail
  refine (rd_within p ao n cap bs 0 most s w HR.out).mono ?_
  rintro e w1 ⟨rfl, hR1, hU1⟩
  have hvf := rWithin_fit bs 0 most s
  obtain ⟨v, s1, hv⟩ : ∃ v s1, rWithin bs 0 most s = (v, s1) := ⟨_, _, rfl⟩
  have HV := Lib.hid hv
  rw [hv] at hR1 hvf
  rw [hv]
  dsimp only at hvf hR1 ⊢
  unfold Fit at hvf
  have hpl1 := hR1.place
  have k0 := cell_regrown hR1.c0
  have k1 := cell_regrown hR1.c1
  have HR1 := Lib.hid hR1
  have HU1 := Lib.hid hU1
  clear hR1 hU1 c1 hv
  obtain ⟨a1, e1⟩ := s1
  dsimp only at k1 hpl1
  by_cases hb : (n : Int) - (a1 : Int) < v
  · have HN : Hid (rCount bs most s = (0, ⟨s.at', 3⟩)) := Lib.hid (rCount_short (by rw [HV.out, ← HLen.out]; exact hb))
    go_wp2
    refine wp_region_quiet_below (by kernel_rfl) (by kernel_rfl) ?_
    repeat (first | go_big_quiet_step (fail) | quiet_step (fail))
    refine wpQuiet_nil ?_
    intro _ hw'
    obtain ⟨⟨dq, osq⟩, hw''⟩ := hw'
    subst hw''
    have bq := below_regrown w1 dq osq
    have HRq := Lib.hid (HR1.out.below bq)
    have HUq := Lib.hid (HU1.out.trans (Upd.of p bq))
    clear k0 k1 bq
    generalize grow (redrawn w1 dq) osq = x at *
    go_wp2_with fail
    refine (rd_refuse p ao n cap bs ⟨a1, e1⟩ s.at' 3 x HRq.out hpl).mono ?_
    rintro e w2 ⟨rfl, hR2, hU2⟩
    have HR2 := Lib.hid hR2
    have HU2 := Lib.hid (HUq.out.trans hU2)
    clear hR2 hU2
    go_wp2_with fail
    go_ret
    exact ⟨by rw [HN.out]; rfl, by rw [HN.out]; exact HR2.out, HU2.out⟩
  · have HN : Hid (rCount bs most s = (v, ⟨a1, e1⟩)) := Lib.hid (by rw [rCount_ok (by rw [HV.out, ← HLen.out]; exact hb), HV.out])
    go_wp2
    refine wp_region_quiet_below (by kernel_rfl) (by kernel_rfl) ?_
    repeat (first | go_big_quiet_step (fail) | quiet_step (fail))
    refine wpQuiet_nil ?_
    intro _ hw'
    obtain ⟨⟨dq, osq⟩, hw''⟩ := hw'
    subst hw''
    have bq := below_regrown w1 dq osq
    have HRq := Lib.hid (HR1.out.below bq)
    have HUq := Lib.hid (HU1.out.trans (Upd.of p bq))
    clear k0 k1 bq
    generalize grow (redrawn w1 dq) osq = x at *
    go_wp2_with fail
    go_ret
    exact ⟨by rw [HN.out]; rfl, by rw [HN.out]; exact HRq.out, HUq.out⟩
end Go.Proofs.Ytagjbjppddbalaa
