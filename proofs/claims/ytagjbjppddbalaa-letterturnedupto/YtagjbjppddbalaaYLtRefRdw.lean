/- THE DOCUMENT's OWN ANSWER: impostref1's Reader: Within, Count, Text, End, Read. (By genrefrw.py.) -/
import Derived.Test.YtagjbjppddbalaaYLtRefRdr
namespace Go.Proofs.Ytagjbjppddbalaa
open Go.RowKit
open Go.Sort (grow)
open Mem Pk
theorem rNum_zero {bs : List UInt8} {s : St} (h : (rNum bs s).2.err ≠ 0) : (rNum bs s).1 = 0 := by
 unfold rNum at h ⊢
 split
 · rfl
 ·
  rename_i h0
  rw [if_neg h0] at h
  cases hn : num (bs.drop s.at') with
  | inl e => rfl
  | inr q =>
   rw [hn] at h
   exact absurd rfl h
theorem rWithin_zero {bs : List UInt8} {lo hi : Int} {s : St} (h : (rWithin bs lo hi s).2.err ≠ 0) : (rWithin bs lo hi s).1 = 0 := by
 unfold rWithin at h ⊢
 split
 · rfl
 ·
  rename_i h0
  rw [if_neg h0] at h
  split
  · rfl
  ·
   rename_i h1
   rw [if_neg h1] at h
   exact absurd h h0
set_option maxHeartbeats 2000000 in
theorem ref_rd_within (p : Nat) (ao : Option Addr) (n cap : Nat) (bs : List UInt8) (lo hi : Int) (s : St) (w : World) (hR : Rd w p ao n cap bs s) :
  Calls Try.prog 55 #[.pointer (some ⟨p,0,none⟩),.int .i64 lo,.int .i64 hi] w fun e w' => e = .returned (.int .i64 (rWithin bs lo hi s).1) ∧ Rd w' p ao n cap bs (rWithin bs lo hi s).2 ∧ Upd w p w' := by
 have HR := Lib.hid hR
 have hpl := hR.place
 have c1 := hR.c1
 clear hR
 go_enter Try.func55,Try.ntmps55
 go_wp2_with fail
 refine (ref_rd_num p ao n cap bs s w HR.out).mono ?_
 rintro e w1 ⟨rfl,hR1,hU1⟩
 have HR1 := Lib.hid hR1
 have HU1 := Lib.hid hU1
 have d2 := hR1.c2
 have d1 := hR1.c1
 have df := hR1.fz
 have HZ0 := Lib.hid (rNum_zero (bs := bs) (s := s))
 clear hR1 hU1 c1
 obtain ⟨v,s1,hv⟩ : ∃ v s1,rNum bs s = (v,s1) := ⟨_,_,rfl⟩
 have HV := Lib.hid hv
 rw [hv] at HR1 d2 d1 HZ0
 rw [hv]
 dsimp only at d2 d1 HR1 HZ0 ⊢
 clear hv
 by_cases he : s1.err = 0
 ·
  rw [he] at d2
  by_cases hb : v < lo ∨ hi < v
  ·
   have HN : Hid (rWithin bs lo hi s = (0,⟨s.at',2⟩)) := Lib.hid (rWithin_long (by rw [HV.out]; exact he) (by rw [HV.out]; exact hb))
   by_cases hlo : v < lo
   ·
    clear hb
    go_wp2
    go_ret
    exact ⟨by rw [HN.out]; rfl,by rw [HN.out]; exact (HR1.out.wrong 2).at s.at' hpl,(HU1.out.trans (Upd.set _)).trans (Upd.set _)⟩
   ·
    have hhi : hi < v := hb.resolve_left hlo
    clear hb
    go_wp2
    go_ret
    exact ⟨by rw [HN.out]; rfl,by rw [HN.out]; exact (HR1.out.wrong 2).at s.at' hpl,(HU1.out.trans (Upd.set _)).trans (Upd.set _)⟩
  ·
   have HN : Hid (rWithin bs lo hi s = (v,s1)) := Lib.hid (by rw [rWithin_ok (by rw [HV.out]; exact he) (by rw [HV.out]; exact hb),HV.out])
   have hb1 : ¬ v < lo := fun h => hb (.inl h)
   have hb2 : ¬ hi < v := fun h => hb (.inr h)
   clear hb
   go_wp2
   go_ret
   exact ⟨by rw [HN.out]; rfl,by rw [HN.out]; exact HR1.out,HU1.out⟩
 ·
  have HN : Hid (rWithin bs lo hi s = (0,s1)) := Lib.hid (by rw [rWithin_wrong (by rw [HV.out]; exact he),HV.out])
  have hne : (s1.err == 0) = false := beq_eq_false_iff_ne.2 he
  have hv0 : v = 0 := HZ0.out he
  subst hv0
  go_wp2
  go_ret
  exact ⟨by rw [HN.out]; rfl,by rw [HN.out]; exact HR1.out,HU1.out⟩
set_option maxHeartbeats 2000000 in
theorem ref_rd_count (p : Nat) (ao : Option Addr) (n cap : Nat) (bs : List UInt8) (most : Int) (s : St) (w : World) (hR : Rd w p ao n cap bs s) :
  Calls Try.prog 43 #[.pointer (some ⟨p,0,none⟩),.int .i64 most] w fun e w' => e = .returned (.int .i64 (rCount bs most s).1) ∧ Rd w' p ao n cap bs (rCount bs most s).2 ∧ Upd w p w' := by
 have HR := Lib.hid hR
 have hpl := hR.place
 have c1 := hR.c1
 have hcap := hR.ls.reach
 have hfit := hR.ls.fits
 have HLen := Lib.hid hR.ls.len
 clear hR
 go_enter Try.func43,Try.ntmps43
 go_wp2_with fail
 refine (ref_rd_within p ao n cap bs 0 most s w HR.out).mono ?_
 rintro e w1 ⟨rfl,hR1,hU1⟩
 have hvf := rWithin_fit bs 0 most s
 have hpos := rWithin_pos bs most s
 have HZ0 := Lib.hid (rWithin_zero (bs := bs) (lo := 0) (hi := most) (s := s))
 obtain ⟨v,s1,hv⟩ : ∃ v s1,rWithin bs 0 most s = (v,s1) := ⟨_,_,rfl⟩
 have HV := Lib.hid hv
 rw [hv] at hR1 hvf hpos HZ0
 rw [hv]
 dsimp only at hvf hR1 hpos HZ0 ⊢
 unfold Fit at hvf
 have hpl1 := hR1.place
 have k0 := cell_regrown hR1.c0
 have k1 := cell_regrown hR1.c1
 have k2 := cell_regrown hR1.c2
 have HR1 := Lib.hid hR1
 have HU1 := Lib.hid hU1
 clear hR1 hU1 c1 hv
 obtain ⟨a1,e1⟩ := s1
 dsimp only at k1 k2 hpl1 HZ0
 by_cases he : e1 = 0
 ·
  subst he
  by_cases hb : (n : Int) - (a1 : Int) < v
  ·
   have HN : Hid (rCount bs most s = (0,⟨s.at',3⟩)) := Lib.hid (rCount_short (by rw [HV.out,← HLen.out]; exact hb))
   go_wp2
   refine wp_region_quiet_below (by kernel_rfl) (by kernel_rfl) ?_
   repeat (first | go_big_quiet_step (fail) | quiet_step (fail))
   refine wpQuiet_nil ?_
   intro _ hw'
   obtain ⟨⟨dq,osq⟩,hw''⟩ := hw'
   subst hw''
   have bq := below_regrown w1 dq osq
   have HRq := Lib.hid (HR1.out.below bq)
   have HUq := Lib.hid (HU1.out.trans (Upd.of p bq))
   clear k0 k1 k2 bq
   generalize grow (redrawn w1 dq) osq = x at *
   have d0 := HRq.out.c0
   have d1 := HRq.out.c1
   have d2 := HRq.out.c2
   have df := HRq.out.fz
   dsimp only at d1 d2
   go_wp2
   go_ret
   exact ⟨by rw [HN.out]; rfl,by rw [HN.out]; exact (HRq.out.wrong 3).at s.at' hpl,(HUq.out.trans (Upd.set _)).trans (Upd.set _)⟩
  ·
   have HN : Hid (rCount bs most s = (v,⟨a1,0⟩)) := Lib.hid (by rw [rCount_ok (by rw [HV.out,← HLen.out]; exact hb),HV.out])
   go_wp2
   refine wp_region_quiet_below (by kernel_rfl) (by kernel_rfl) ?_
   repeat (first | go_big_quiet_step (fail) | quiet_step (fail))
   refine wpQuiet_nil ?_
   intro _ hw'
   obtain ⟨⟨dq,osq⟩,hw''⟩ := hw'
   subst hw''
   have bq := below_regrown w1 dq osq
   have HRq := Lib.hid (HR1.out.below bq)
   have HUq := Lib.hid (HU1.out.trans (Upd.of p bq))
   clear k0 k1 k2 bq
   generalize grow (redrawn w1 dq) osq = x at *
   have d0 := HRq.out.c0
   have d1 := HRq.out.c1
   have d2 := HRq.out.c2
   have df := HRq.out.fz
   dsimp only at d1 d2
   go_wp2
   go_ret
   exact ⟨by rw [HN.out]; rfl,by rw [HN.out]; exact HRq.out,HUq.out⟩
 ·
  have hv0 : v = 0 := HZ0.out he
  subst hv0
  have HN : Hid (rCount bs most s = (0,⟨a1,e1⟩)) := Lib.hid (by rw [rCount_ok (by rw [HV.out,← HLen.out]; dsimp only; omega),HV.out])
  have hne : (e1 == 0) = false := beq_eq_false_iff_ne.2 he
  go_wp2
  refine wp_region_quiet_below (by kernel_rfl) (by kernel_rfl) ?_
  repeat (first | go_big_quiet_step (fail) | quiet_step (fail))
  refine wpQuiet_nil ?_
  intro _ hw'
  obtain ⟨⟨dq,osq⟩,hw''⟩ := hw'
  subst hw''
  have bq := below_regrown w1 dq osq
  have HRq := Lib.hid (HR1.out.below bq)
  have HUq := Lib.hid (HU1.out.trans (Upd.of p bq))
  clear k0 k1 k2 bq
  generalize grow (redrawn w1 dq) osq = x at *
  have d0 := HRq.out.c0
  have d1 := HRq.out.c1
  have d2 := HRq.out.c2
  have df := HRq.out.fz
  dsimp only at d1 d2
  go_wp2
  go_ret
  exact ⟨by rw [HN.out]; rfl,by rw [HN.out]; exact HRq.out,HUq.out⟩
set_option maxHeartbeats 2000000 in
theorem ref_rd_end (p : Nat) (ao : Option Addr) (n cap : Nat) (bs : List UInt8) (s : St) (w : World) (hR : Rd w p ao n cap bs s) :
  Calls Try.prog 44 #[.pointer (some ⟨p,0,none⟩)] w fun e w' => e = .returned (.int .i64 (rEnd bs s).1) ∧ Rd w' p ao n cap bs (rEnd bs s).2 ∧ Upd w p w' := by
 have HR := Lib.hid hR
 have hcap := hR.ls.reach
 have hfit := hR.ls.fits
 have HLen := Lib.hid hR.ls.len
 have hpl := hR.place
 have k0 := cell_regrown hR.c0
 have k1 := cell_regrown hR.c1
 have k2 := cell_regrown hR.c2
 obtain ⟨a,er⟩ := s
 dsimp only at k1 k2 hpl
 clear hR
 by_cases he : er = 0
 ·
  subst he
  by_cases hlt : a < n
  ·
   have HN : Hid (rEnd bs ⟨a,0⟩ = (5,⟨a,5⟩)) := Lib.hid (rEnd_tail ⟨rfl,by rw [← HLen.out]; exact hlt⟩)
   go_enter Try.func44,Try.ntmps44
   go_wp2
   refine wp_region_quiet_below (by kernel_rfl) (by kernel_rfl) ?_
   repeat (first | go_big_quiet_step (fail) | quiet_step (fail))
   refine wpQuiet_nil ?_
   intro _ hw'
   obtain ⟨⟨dq,osq⟩,hw''⟩ := hw'
   subst hw''
   have bq := below_regrown w dq osq
   have HRq := Lib.hid (HR.out.below bq)
   have HUq := Lib.hid (Upd.of p bq)
   clear k0 k1 k2 bq
   generalize grow (redrawn w dq) osq = x at *
   have d2 := HRq.out.c2
   have df := HRq.out.fz
   dsimp only at d2
   go_wp2
   go_ret
   refine ⟨by rw [HN.out]; rfl,?_,HUq.out.trans (Upd.set _)⟩
   rw [HN.out]
   exact HRq.out.wrong 5
  ·
   have HN : Hid (rEnd bs ⟨a,0⟩ = (0,⟨a,0⟩)) := Lib.hid (rEnd_else (fun h => hlt (by rw [HLen.out]; exact h.2)))
   go_enter Try.func44,Try.ntmps44
   go_wp2
   refine wp_region_quiet_below (by kernel_rfl) (by kernel_rfl) ?_
   repeat (first | go_big_quiet_step (fail) | quiet_step (fail))
   refine wpQuiet_nil ?_
   intro _ hw'
   obtain ⟨⟨dq,osq⟩,hw''⟩ := hw'
   subst hw''
   have bq := below_regrown w dq osq
   have HRq := Lib.hid (HR.out.below bq)
   have HUq := Lib.hid (Upd.of p bq)
   clear k0 k1 k2 bq
   generalize grow (redrawn w dq) osq = x at *
   have d2 := HRq.out.c2
   dsimp only at d2
   go_wp2
   go_ret
   exact ⟨by rw [HN.out]; rfl,by rw [HN.out]; exact HRq.out,HUq.out⟩
 ·
  have HN : Hid (rEnd bs ⟨a,er⟩ = (er,⟨a,er⟩)) := Lib.hid (rEnd_else (fun h => he h.1))
  have q0 : (er == 0) = false := beq_eq_false_iff_ne.2 he
  go_enter Try.func44,Try.ntmps44
  go_wp2
  refine wp_region_quiet_below (by kernel_rfl) (by kernel_rfl) ?_
  repeat (first | go_big_quiet_step (fail) | quiet_step (fail))
  refine wpQuiet_nil ?_
  intro _ hw'
  obtain ⟨⟨dq,osq⟩,hw''⟩ := hw'
  subst hw''
  have bq := below_regrown w dq osq
  have HRq := Lib.hid (HR.out.below bq)
  have HUq := Lib.hid (Upd.of p bq)
  clear k0 k1 k2 bq
  generalize grow (redrawn w dq) osq = x at *
  have d2 := HRq.out.c2
  dsimp only at d2
  go_wp2
  go_ret
  exact ⟨by rw [HN.out]; rfl,by rw [HN.out]; exact HRq.out,HUq.out⟩
end Go.Proofs.Ytagjbjppddbalaa
