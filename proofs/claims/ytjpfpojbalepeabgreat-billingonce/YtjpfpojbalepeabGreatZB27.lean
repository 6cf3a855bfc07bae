import Derived.Deep.RegionHeld3
import Derived.Laws.CopyOwn
import Derived.Laws.MakeOwn
import Derived.Lib.QuietBelow
import Derived.Test.YtjpfpojbalepeabGreatZB21
import Derived.Test.YtjpfpojbalepeabGreatZB23
import Derived.Test.YtjpfpojbalepeabGreatZB24
import Derived.Test.YtjpfpojbalepeabGreatZB25
import Derived.Test.YtjpfpojbalepeabGreatZB26
namespace Go.Proofs.YtjpfpojbalepeabGreat
open Go.RowKit
theorem leap_date (y : Int) (w : World) (h0 : 0 ≤ y) (h1 : y ≤ 10000) :
  Calls Tryz.prog 106 #[.int .i64 y] w fun e w' => e = .returned (.bool (Dt.leapB y)) ∧ w' = w := by
 go_enter Tryz.func106,Tryz.ntmps106
 by_cases a1 : y % 4 = 0
 ·
  by_cases a2 : y % 100 = 0
  ·
   have a3 : (y % 100 != 0) = false := by rw [a2]; rfl
   go_wp2
   go_ret
   refine ⟨ret_bool ?_,rfl⟩
   rw [Bool.eq_iff_iff,Dt.leap_iff,beq_iff_eq]
   omega
  ·
   have a3 : (y % 100 != 0) = true := bne_iff_ne.2 a2
   go_wp2
   go_ret
   exact ⟨ret_bool ((Dt.leap_iff y).2 ⟨a1,.inl a2⟩).symm,rfl⟩
 ·
  have a2 : (y % 4 == 0) = false := beq_eq_false_iff_ne.2 a1
  go_wp2
  go_ret
  refine ⟨ret_bool ?_,rfl⟩
  rw [Bool.eq_iff_iff,Dt.leap_iff,beq_iff_eq]
  omega
theorem length_date (y m : Int) (w : World) (h0 : 0 ≤ y) (h1 : y ≤ 10000) :
  Calls Tryz.prog 78 #[.int .i64 y,.int .i64 m] w fun e w' => e = .returned (.int .i64 (Dt.len y m)) ∧ w' = w := by
 by_cases h : m < 1 ∨ 12 < m
 ·
  have HL := Lib.hid (Dt.len_0 (y := y) h)
  have e1 : (m == 1) = false := beq_eq_false_iff_ne.2 (by omega)
  have e2 : (m == 2) = false := beq_eq_false_iff_ne.2 (by omega)
  have e3 : (m == 3) = false := beq_eq_false_iff_ne.2 (by omega)
  have e4 : (m == 4) = false := beq_eq_false_iff_ne.2 (by omega)
  have e5 : (m == 5) = false := beq_eq_false_iff_ne.2 (by omega)
  have e6 : (m == 6) = false := beq_eq_false_iff_ne.2 (by omega)
  have e7 : (m == 7) = false := beq_eq_false_iff_ne.2 (by omega)
  have e8 : (m == 8) = false := beq_eq_false_iff_ne.2 (by omega)
  have e9 : (m == 9) = false := beq_eq_false_iff_ne.2 (by omega)
  have e10 : (m == 10) = false := beq_eq_false_iff_ne.2 (by omega)
  have e11 : (m == 11) = false := beq_eq_false_iff_ne.2 (by omega)
  have e12 : (m == 12) = false := beq_eq_false_iff_ne.2 (by omega)
  clear h
  go_enter Tryz.func78,Tryz.ntmps78
  go_wp2_with fail
  go_ret
  exact ⟨ret_int HL.out.symm,rfl⟩
 ·
  have hm : m = 1 ∨ m = 2 ∨ m = 3 ∨ m = 4 ∨ m = 5 ∨ m = 6 ∨ m = 7 ∨ m = 8 ∨ m = 9 ∨ m = 10 ∨ m = 11 ∨ m = 12 := by omega
  clear h
  by_cases h2 : m = 2
  ·
   subst h2
   clear hm
   by_cases hl : Dt.leapB y = true
   ·
    have HL : Hid (Dt.len y 2 = 29) := Lib.hid (by rw [Dt.len_2,Dt.lp_true hl]; rfl)
    go_enter Tryz.func78,Tryz.ntmps78
    go_wp2_with fail
    refine (leap_date y _ h0 h1).mono ?_
    rintro e w1 ⟨rfl,hw1⟩
    subst hw1
    rw [hl]
    go_wp2_with fail
    go_ret
    exact ⟨ret_int HL.out.symm,rfl⟩
   ·
    have hl' : Dt.leapB y = false := by simpa using hl
    have HL : Hid (Dt.len y 2 = 28) := Lib.hid (by rw [Dt.len_2,Dt.lp_false hl']; rfl)
    clear hl
    go_enter Tryz.func78,Tryz.ntmps78
    go_wp2_with fail
    refine (leap_date y _ h0 h1).mono ?_
    rintro e w1 ⟨rfl,hw1⟩
    subst hw1
    rw [hl']
    go_wp2_with fail
    go_ret
    exact ⟨ret_int HL.out.symm,rfl⟩
  ·
   by_cases h3 : m = 4 ∨ m = 6 ∨ m = 9 ∨ m = 11
   ·
    have HL := Lib.hid (Dt.len_30 (y := y) h3)
    clear hm h2
    rcases h3 with rfl | rfl | rfl | rfl
    all_goals
     go_enter Tryz.func78,Tryz.ntmps78
     go_wp2_with fail
     go_ret
     exact ⟨ret_int HL.out.symm,rfl⟩
   ·
    have h4 : m = 1 ∨ m = 3 ∨ m = 5 ∨ m = 7 ∨ m = 8 ∨ m = 10 ∨ m = 12 := by omega
    have HL := Lib.hid (Dt.len_31 (y := y) h4)
    clear hm h2 h3
    rcases h4 with rfl | rfl | rfl | rfl | rfl | rfl | rfl
    all_goals
     go_enter Tryz.func78,Tryz.ntmps78
     go_wp2_with fail
     go_ret
     exact ⟨ret_int HL.out.symm,rfl⟩
theorem within_date (n a b : Int) (w : World) :
  Calls Tryz.prog 77 #[.int .i64 n,.int .i64 a,.int .i64 b] w fun e w' => e = .returned (.bool (decide (a ≤ n ∧ n ≤ b))) ∧ w' = w := by
 go_enter Tryz.func77,Tryz.ntmps77
 by_cases h1 : a ≤ n
 ·
  go_wp2
  go_ret
  exact ⟨ret_bool (by simp [h1]),rfl⟩
 ·
  go_wp2
  go_ret
  refine ⟨ret_bool ?_,rfl⟩
  rw [Bool.eq_iff_iff]
  simp
  omega
end Go.Proofs.YtjpfpojbalepeabGreat
namespace Go.Proofs.YtjpfpojbalepeabGreat
open Go.RowKit
theorem right_years {y m d : Int} (h : 1 ≤ y ∧ y ≤ 9999) : Dt.rightB y m d = decide (1 ≤ d ∧ d ≤ Dt.len y m) := by
 unfold Dt.rightB
 rw [Bool.eq_iff_iff,decide_eq_true_iff,decide_eq_true_iff]
 exact ⟨fun k => k.2.2,fun k => ⟨h.1,h.2,k⟩⟩
theorem right_noyear {y m d : Int} (h : ¬ (1 ≤ y ∧ y ≤ 9999)) : Dt.rightB y m d = false := by
 rw [Bool.eq_false_iff]
 intro k
 rw [Dt.right_iff] at k
 omega
set_option maxHeartbeats 1000000 in
theorem right_date (y m d : Int) (w0 w : World) (hw : Below w0.heap.size w0 w) (_hy : Fit y) (_hm : Fit m) (_hd : Fit d) :
  Calls Tryz.prog 52 #[dayV y m d] w fun e w' => e = .returned (.bool (Dt.rightB y m d)) ∧ Below w0.heap.size w0 w' := by
 have HW := Lib.hid hw
 clear hw
 unfold dayV
 by_cases h1 : 1 ≤ y ∧ y ≤ 9999
 ·
  have HR := Lib.hid (right_years (m := m) (d := d) h1)
  have hd1 : decide (1 ≤ y ∧ y ≤ 9999) = true := decide_eq_true h1
  go_enter Tryz.func52,Tryz.ntmps52
  go_wp2
  go_quiet (first | (go_at_call 78; exact Calls.quiet_of_same (length_date _ _ _ (by omega) (by omega))) | (go_at_call 77; exact Calls.quiet_of_same (within_date _ _ _ _)))
  go_wp2
  go_ret
  exact ⟨ret_bool (by rw [HR.out,Bool.decide_and]),below_drewN (below_box HW.out _) _⟩
 ·
  have HR := Lib.hid (right_noyear (m := m) (d := d) h1)
  have hd1 : decide (1 ≤ y ∧ y ≤ 9999) = false := decide_eq_false h1
  go_enter Tryz.func52,Tryz.ntmps52
  go_wp2
  go_quiet (first | (go_at_call 78; exact Calls.quiet_of_same (length_date _ _ _ (by omega) (by omega))) | (go_at_call 77; exact Calls.quiet_of_same (within_date _ _ _ _)))
  go_wp2
  go_ret
  exact ⟨ret_bool HR.out.symm,below_drewN (below_box HW.out _) _⟩
theorem ahead_date (y : Int) (w : World) (h0 : 1 ≤ y) (h1 : y ≤ 10000) :
  Calls Tryz.prog 128 #[.int .i64 y] w fun e w' => e = .returned (.int .i64 (Dt.yd y)) ∧ w' = w := by
 have HY : Hid (Dt.yd y = (y - 1) * 365 + (y - 1) / 4 - (y - 1) / 100 + (y - 1) / 400) := Lib.hid (by unfold Dt.yd; omega)
 go_enter Tryz.func128,Tryz.ntmps128
 go_wp2
 go_ret
 exact ⟨ret_int HY.out.symm,rfl⟩
set_option maxHeartbeats 1000000 in
theorem days_date (y m d : Int) (w0 w : World) (hw : Below w0.heap.size w0 w) (hy : Fit y) (hm : Fit m) (hd : Fit d) :
  Calls Tryz.prog 105 #[dayV y m d] w fun e w' => e = .returned (.int .i64 (Dt.days y m d)) ∧ Below w0.heap.size w0 w' := by
 have HW := Lib.hid hw
 clear hw
 by_cases h : Dt.rightB y m d = true
 ·
  rw [Dt.days_right h]
  obtain ⟨h1,h2,h3,h4,h5,h6⟩ := Dt.right_bd h
  have hn := Lib.hid (Dt.num_bd h)
  obtain ⟨hy0,hy1⟩ := Dt.yd_bd h1 (show y ≤ 10000 by omega)
  unfold dayV
  go_enter Tryz.func105,Tryz.ntmps105
  go_wp2_with fail
  refine (right_date y m d _ _ (Below.refl _ _) hy hm hd).mono ?_
  rintro e w1 ⟨rfl,b1⟩
  have HB1 := Lib.hid ((below_box HW.out _).trans (b1.mono (below_box HW.out _).size))
  obtain ⟨hc,hf⟩ := bcell b1
  clear b1 hy hm hd
  rw [h]
  go_wp2
  go_quiet ((go_at_call 128; exact Calls.quiet_of_same (ahead_date _ _ (by omega) (by omega))))
  go_wp2
  go_loop [3,4] (fun n i => ∃ k : Int,1 ≤ k ∧ k ≤ m ∧ i = .int .i64 k ∧ n = .int .i64 (Dt.yd y + d - 1 + Dt.cum y k)) (fun _ i => (m - intOf i).toNat)
  case atStart => exact ⟨1,by omega,h3,rfl,by rw [Dt.cum_1,Int.add_zero]⟩
  case round =>
   obtain ⟨k,hk0,hk1,rfl,rfl⟩ := hrel
   have hcb := Dt.cum_bd (y := y) hk0 (show k ≤ 13 by omega)
   by_cases hlt : k < m
   ·
    have hlb := Dt.len_bd y k
    have HS := Lib.hid (Dt.cum_succ y k hk0 (by omega))
    go_wp2_with fail
    refine (length_date y k _ (by omega) (by omega)).mono ?_
    rintro e w2 ⟨rfl,hw2⟩
    subst hw2
    go_wp2
    go_round
    case rel => exact ⟨k + 1,by omega,by omega,rfl,by rw [HS.out,← Int.add_assoc]⟩
    case measure => simp [intOf]; omega
   ·
    obtain rfl : k = m := by omega
    go_wp2
    go_ret
    exact ⟨ret_int (by unfold Dt.num; omega),below_drewN HB1.out _⟩
 ·
  have h' : Dt.rightB y m d = false := by simpa using h
  rw [Dt.days_not h']
  unfold dayV
  go_enter Tryz.func105,Tryz.ntmps105
  go_wp2_with fail
  refine (right_date y m d w0 _ (below_box HW.out _) hy hm hd).mono ?_
  rintro e w1 ⟨rfl,b1⟩
  have HB1 := Lib.hid b1
  clear b1
  rw [h']
  go_wp2
  go_ret
  exact ⟨rfl,HB1.out⟩
end Go.Proofs.YtjpfpojbalepeabGreat
namespace Go.Proofs.YtjpfpojbalepeabGreat
open Go.RowKit
def aheadB (y m d z n e : Int) : Bool := Dt.rightB y m d && Dt.rightB z n e && decide (Dt.num y m d < Dt.num z n e)
theorem ahead_not1 {y m d z n e : Int} (h : Dt.rightB y m d = false) : aheadB y m d z n e = false := by
 unfold aheadB
 rw [h]
 rfl
theorem ahead_not2 {y m d z n e : Int} (h : Dt.rightB z n e = false) : aheadB y m d z n e = false := by
 unfold aheadB
 rw [h,Bool.and_false]
 rfl
theorem ahead_both {y m d z n e : Int} (h : Dt.rightB y m d = true) (k : Dt.rightB z n e = true) : aheadB y m d z n e = decide (Dt.days y m d < Dt.days z n e) := by
 unfold aheadB
 rw [h,k,Dt.days_right h,Dt.days_right k]
 rfl
set_option maxHeartbeats 1000000 in
theorem before_date (y m d z n e : Int) (w0 w : World) (hw : Below w0.heap.size w0 w) (hy : Fit y) (hm : Fit m) (hd : Fit d) (hz : Fit z) (hn : Fit n) (he : Fit e) :
  Calls Tryz.prog 74 #[dayV y m d,dayV z n e] w fun en w' => en = .returned (.bool (aheadB y m d z n e)) ∧ Below w0.heap.size w0 w' := by
 have HW := Lib.hid hw
 have HF := Lib.hid (And.intro hy (And.intro hm (And.intro hd (And.intro hz (And.intro hn he)))))
 clear hw hy hm hd hz hn he
 unfold dayV
 obtain ⟨W,hW⟩ : ∃ W,(w.alloc (.cells #[.int .i64 y,.int .i64 m,.int .i64 d] 24)).alloc (.cells #[.int .i64 z,.int .i64 n,.int .i64 e] 24) = W := ⟨_,rfl⟩
 have HBW : Hid (Below w0.heap.size w0 W) := Lib.hid (hW ▸ below_box (below_box HW.out _) _)
 have l0 : ∀ u,Below W.heap.size W u → u.cell? ⟨w.heap.size,0,none⟩ = some (.int .i64 y) ∧ u.cell? ⟨w.heap.size,1,none⟩ = some (.int .i64 m) ∧ u.cell? ⟨w.heap.size,2,none⟩ = some (.int .i64 d) := fun u hb => by
  rw [(bcell hb).1 _ _ (by rw [← hW]; simp; omega),(bcell hb).1 _ _ (by rw [← hW]; simp; omega),(bcell hb).1 _ _ (by rw [← hW]; simp; omega),← hW]
  simp [go_sem]
 have l1 : ∀ u,Below W.heap.size W u → u.cell? ⟨w.heap.size + 1,0,none⟩ = some (.int .i64 z) ∧ u.cell? ⟨w.heap.size + 1,1,none⟩ = some (.int .i64 n) ∧ u.cell? ⟨w.heap.size + 1,2,none⟩ = some (.int .i64 e) := fun u hb => by
  rw [(bcell hb).1 _ _ (by rw [← hW]; simp),(bcell hb).1 _ _ (by rw [← hW]; simp),(bcell hb).1 _ _ (by rw [← hW]; simp),← hW]
  simp [go_sem]
 by_cases h1 : Dt.rightB y m d = true
 ·
  by_cases h2 : Dt.rightB z n e = true
  ·
   rw [ahead_both h1 h2]
   go_enter Tryz.func74,Tryz.ntmps74
   go_wp2
   go_region_held3 (fun u => Below W.heap.size W u) (first | assumption | exact (Below.refl _ _).drew) (first | (go_at_call 52; refine (right_date _ _ _ W _ (by assumption) (by first | exact HF.out.1 | exact HF.out.2.1 | exact HF.out.2.2.1 | exact HF.out.2.2.2.1 | exact HF.out.2.2.2.2.1 | exact HF.out.2.2.2.2.2) (by first | exact HF.out.1 | exact HF.out.2.1 | exact HF.out.2.2.1 | exact HF.out.2.2.2.1 | exact HF.out.2.2.2.2.1 | exact HF.out.2.2.2.2.2) (by first | exact HF.out.1 | exact HF.out.2.1 | exact HF.out.2.2.1 | exact HF.out.2.2.2.1 | exact HF.out.2.2.2.2.1 | exact HF.out.2.2.2.2.2)).mono ?_; rintro en w' ⟨rfl,b⟩) | (go_at_call 105; refine (days_date _ _ _ W _ (by assumption) (by first | exact HF.out.1 | exact HF.out.2.1 | exact HF.out.2.2.1 | exact HF.out.2.2.2.1 | exact HF.out.2.2.2.2.1 | exact HF.out.2.2.2.2.2) (by first | exact HF.out.1 | exact HF.out.2.1 | exact HF.out.2.2.1 | exact HF.out.2.2.2.1 | exact HF.out.2.2.2.2.1 | exact HF.out.2.2.2.2.2) (by first | exact HF.out.1 | exact HF.out.2.1 | exact HF.out.2.2.1 | exact HF.out.2.2.2.1 | exact HF.out.2.2.2.2.1 | exact HF.out.2.2.2.2.2)).mono ?_; rintro en w' ⟨rfl,b⟩))
   go_wp2
   go_ret
   exact ⟨rfl,HBW.out.trans (b.mono HBW.out.size)⟩
  ·
   have h2' : Dt.rightB z n e = false := by simpa using h2
   clear h2
   rw [ahead_not2 h2']
   go_enter Tryz.func74,Tryz.ntmps74
   go_wp2
   obtain ⟨g0,g1,g2⟩ := l0 W.drew (Below.refl _ _).drew
   obtain ⟨g3,g4,g5⟩ := l1 W.drew (Below.refl _ _).drew
   go_region_with (go_at_call 52; refine (right_date _ _ _ W _ (by first | assumption | exact (Below.refl _ _).drew) (by first | exact HF.out.1 | exact HF.out.2.1 | exact HF.out.2.2.1 | exact HF.out.2.2.2.1 | exact HF.out.2.2.2.2.1 | exact HF.out.2.2.2.2.2) (by first | exact HF.out.1 | exact HF.out.2.1 | exact HF.out.2.2.1 | exact HF.out.2.2.2.1 | exact HF.out.2.2.2.2.1 | exact HF.out.2.2.2.2.2) (by first | exact HF.out.1 | exact HF.out.2.1 | exact HF.out.2.2.1 | exact HF.out.2.2.2.1 | exact HF.out.2.2.2.2.1 | exact HF.out.2.2.2.2.2)).mono ?_; rintro en w' ⟨rfl,b⟩; obtain ⟨k0,k1,k2⟩ := l0 _ b; obtain ⟨k3,k4,k5⟩ := l1 _ b; first | rw [h1] | rw [h2'])
   all_goals
    go_wp2
    go_ret
    exact ⟨rfl,HBW.out.trans (b.mono HBW.out.size)⟩
 ·
  have h1' : Dt.rightB y m d = false := by simpa using h1
  clear h1
  rw [ahead_not1 h1']
  go_enter Tryz.func74,Tryz.ntmps74
  go_wp2
  obtain ⟨g0,g1,g2⟩ := l0 W.drew (Below.refl _ _).drew
  obtain ⟨g3,g4,g5⟩ := l1 W.drew (Below.refl _ _).drew
  go_region_with (go_at_call 52; refine (right_date _ _ _ W _ (by first | assumption | exact (Below.refl _ _).drew) (by first | exact HF.out.1 | exact HF.out.2.1 | exact HF.out.2.2.1 | exact HF.out.2.2.2.1 | exact HF.out.2.2.2.2.1 | exact HF.out.2.2.2.2.2) (by first | exact HF.out.1 | exact HF.out.2.1 | exact HF.out.2.2.1 | exact HF.out.2.2.2.1 | exact HF.out.2.2.2.2.1 | exact HF.out.2.2.2.2.2) (by first | exact HF.out.1 | exact HF.out.2.1 | exact HF.out.2.2.1 | exact HF.out.2.2.2.1 | exact HF.out.2.2.2.2.1 | exact HF.out.2.2.2.2.2)).mono ?_; rintro en w' ⟨rfl,b⟩; obtain ⟨k0,k1,k2⟩ := l0 _ b; obtain ⟨k3,k4,k5⟩ := l1 _ b; rw [h1'])
  all_goals
   go_wp2
   go_ret
   exact ⟨rfl,HBW.out.trans (b.mono HBW.out.size)⟩
end Go.Proofs.YtjpfpojbalepeabGreat
set_option maxRecDepth 100000
set_option linter.unusedVariables false
namespace Go.Proofs.YtjpfpojbalepeabGreat
open Go.RowKit
open Mem
open Go.Sort (grow)
def Bl.EachR (l : List Bl.Ps) : Prop := ∀ p ∈ l,Dt.rightB p.y p.m p.d = true ∧ Bl.TotR p.tot
set_option maxHeartbeats 8000000 in
theorem bil_reckoned (ps : List Bl.Ps) (rs : List Pd.T) (ao : Option Addr) (n cap : Nat) (w0 w : World) (hw : Below w0.heap.size w0 w) (hL : Pd.Ls w ao n cap rs) (hE : Bl.Each w rs ps) :
  Calls Tryz.prog 32 #[.slice ao n cap] w (Bl.YesE w0 (Bl.EachR ps)) := by
 have HW := Lib.hid hw
 have HL := Lib.hid hL
 have HN := Lib.hid hL.len
 have HE := Lib.hid hE
 have hcap := hL.reach
 have hfit := hL.fits
 clear hL hw hE
 go_enter Tryz.func32,Tryz.ntmps32
 go_wp2_with fail
 go_loopw [4,7] (fun _ j wr => ∃ k : Nat,k ≤ n ∧ j = .int .i64 k ∧ Hid (Bl.EachR (ps.take k)) ∧ Hid (Below w.heap.size w wr)) (fun _ j _ => n - (intOf j).toNat)
 case atStart => exact ⟨0,by omega,rfl,Lib.hid (fun _ h => by cases h),Lib.hid (Below.refl _ _)⟩
 case round =>
  obtain ⟨k,hk,rfl,HT,HB⟩ := hrel
  by_cases hlt : k < n
  ·
   obtain ⟨b,off,rfl⟩ := HL.out.at (by omega)
   have hkl : k < rs.length := HN.out ▸ hlt
   have hkp : k < ps.length := HE.out.len ▸ hkl
   have hrow := (HL.out.row k hkl).below HB.out
   have HSh := Lib.hid (HL.out.short _ (List.getElem_mem hkl))
   have hI := HE.out.each k hkl
   have HMe := Lib.hid (List.getElem_mem hkp)
   have HS := Lib.hid (List.take_succ_eq_append_getElem hkp)
   obtain ⟨r,hr⟩ : ∃ r,rs[k] = r := ⟨_,rfl⟩
   obtain ⟨p,hp⟩ : ∃ p,ps[k] = p := ⟨_,rfl⟩
   rw [hr] at hrow hI HSh
   rw [hp] at hI HS HMe
   clear hr hp
   have hA := Pd.c_box wr r
   have HBW := Lib.hid (bchain HB.out (Pd.below_own wr r))
   have HI := Lib.hid (hI.below (bchain HB.out (Pd.below_own wr r)))
   have HA := Lib.hid hA
   have hA' := hA
   unfold Pd.C at hA'
   obtain ⟨a0,a1,a2,a3,a4,a5,a6,a7,a8,a9,a10,a11⟩ := hA'
   clear hA hI
   go_wp2_with (first | ((with_reducible apply Pd.wpl_load hrow); rfl; rfl; rfl) | ((with_reducible apply Pd.wpl_store (r := r) (g := wr.heap.size)); rfl; rfl; rfl; rfl; rfl; rfl))
   refine (right_date r.y r.m r.d _ _ (Below.refl _ _) HSh.out.2.2.1 HSh.out.2.2.2.1 HSh.out.2.2.2.2.1).mono ?_
   rintro e w1 ⟨rfl,b1⟩
   have HB1 := Lib.hid (bchain HBW.out b1)
   have HI1 := Lib.hid (HI.out.below b1)
   have HA1 := Lib.hid (HA.out.below b1)
   clear b1 a0 a1 a2 a3 a4 a5 a6 a7 a8 a9 a10 a11 hrow
   cases hr : Dt.rightB r.y r.m r.d
   ·
    have HNo : Hid (¬ Bl.EachR ps) := Lib.hid fun z => by
     have h := (z p HMe.out).1
     rw [← HI.out.y,← HI.out.m,← HI.out.d,hr] at h
     cases h
    clear hr
    go_wp2_with fail
    go_ret
    exact ⟨.inr ⟨HNo.out,rfl⟩,bchain HW.out HB1.out⟩
   ·
    have HRt : Hid (Dt.rightB p.y p.m p.d = true) := Lib.hid (by rw [← HI.out.y,← HI.out.m,← HI.out.d]; exact hr)
    clear hr
    have hA' := HA1.out
    unfold Pd.C at hA'
    obtain ⟨a0,a1,a2,a3,a4,a5,a6,a7,a8,a9,a10,a11⟩ := hA'
    go_wp2_with fail
    refine (bil_parted p.tot.parts r.parts.ao r.parts.n r.parts.cap w1 w1 (Below.refl _ _) HI1.out.parts).mono ?_
    rintro e w2 ⟨hcase,b2⟩
    have HB2 := Lib.hid (bchain HB1.out b2)
    have HI2 := Lib.hid (HI1.out.below b2)
    have HA2 := Lib.hid (HA1.out.below b2)
    clear b2 a0 a1 a2 a3 a4 a5 a6 a7 a8 a9 a10 a11
    rcases hcase with ⟨hpt,rfl⟩ | ⟨hno,rfl⟩
    ·
     have HPt := Lib.hid hpt
     clear hpt
     have hA' := HA2.out
     unfold Pd.C at hA'
     obtain ⟨a0,a1,a2,a3,a4,a5,a6,a7,a8,a9,a10,a11⟩ := hA'
     have HFi : Hid (Fit p.tot.net ∧ Fit p.tot.tax ∧ Fit p.tot.gross) := Lib.hid ⟨HI.out.net ▸ HSh.out.2.2.2.2.2.1,HI.out.tax ▸ HSh.out.2.2.2.2.2.2.1,HI.out.gross ▸ HSh.out.2.2.2.2.2.2.2.1⟩
     have HSm := Lib.hid (bil_summed p.tot r.parts.ao r.parts.n r.parts.cap w2 w2 (Below.refl _ _) HI2.out.parts HFi.out (by have h1 := HI2.out.parts.len; have h2 := HPt.out.2.1; omega))
     rw [← HI.out.net,← HI.out.tax,← HI.out.gross] at HSm
     unfold Tt.val at HSm
     go_wp2_with fail
     refine HSm.out.mono ?_
     rintro e w3 ⟨hcase,b3⟩
     have HB3 := Lib.hid (bchain HB2.out b3)
     clear b3 a0 a1 a2 a3 a4 a5 a6 a7 a8 a9 a10 a11 HSm
     rcases hcase with ⟨hsm,rfl⟩ | ⟨hno,rfl⟩
     ·
      have HTo : Hid (Bl.TotR p.tot) := Lib.hid (Bl.part_tot.2 ⟨HPt.out,hsm.1,hsm.2.1,hsm.2.2,HFi.out⟩)
      clear hsm
      go_wp2_with fail
      go_roundw
      case rel =>
       refine ⟨k + 1,by omega,by go_num,Lib.hid ?_,HB3⟩
       rw [HS.out]
       intro y hy
       rcases List.mem_append.1 hy with h | h
       · exact HT.out y h
       ·
        rw [List.mem_singleton.1 h]
        exact ⟨HRt.out,HTo.out⟩
      case measure => simp [intOf]; omega
     ·
      have HNo : Hid (¬ Bl.EachR ps) := Lib.hid fun z => by
       have h := Bl.part_tot.1 (z p HMe.out).2
       exact hno ⟨h.2.1,h.2.2.1,h.2.2.2.1⟩
      clear hno
      go_wp2_with fail
      go_ret
      exact ⟨.inr ⟨HNo.out,rfl⟩,bchain HW.out HB3.out⟩
    ·
     have HNo : Hid (¬ Bl.EachR ps) := Lib.hid fun z => hno (Bl.part_tot.1 (z p HMe.out).2).1
     clear hno
     go_wp2_with fail
     go_ret
     exact ⟨.inr ⟨HNo.out,rfl⟩,bchain HW.out HB2.out⟩
  ·
   obtain rfl : k = n := by omega
   have HYes : Hid (Bl.EachR ps) := Lib.hid (by
    have h := HT.out
    rw [List.take_of_length_le (by rw [HN.out,HE.out.len]; exact Nat.le_refl _)] at h
    exact h)
   go_wp2_with fail
   go_ret
   exact ⟨.inl ⟨HYes.out,rfl⟩,bchain HW.out HB.out⟩
end Go.Proofs.YtjpfpojbalepeabGreat
namespace Go.Proofs.YtjpfpojbalepeabGreat.Pt
open Go.RowKit
open Mem
open Go.Sort (grow)
set_option maxHeartbeats 4000000 in
theorem equal_any (xs ys : List T) (ao bo : Option Addr) (n m ca cb : Nat) (w0 w : World) (hw : Below w0.heap.size w0 w) (hA : Ls w ao n ca xs) (hB : Ls w bo m cb ys) :
  Calls Tryz.prog 112 #[.slice ao n ca,.slice bo m cb] w fun e w' => e = .returned (.bool (sameB xs ys)) ∧ Below w0.heap.size w0 w' := by
 have HW := Lib.hid hw
 have HA := Lib.hid hA
 have HB := Lib.hid hB
 have HN := Lib.hid hA.len
 have HM := Lib.hid hB.len
 have hca := hA.reach
 have hfa := hA.fits
 have hcb := hB.reach
 have hfb := hB.fits
 clear hw hA hB
 by_cases hnm : n = m
 ·
  subst hnm
  have hne : ((n : Int) != (n : Int)) = false := bne_self_eq_false _
  go_enter Tryz.func112,Tryz.ntmps112
  go_wp2
  go_loopw [5,13] (fun _ i wr => ∃ k : Nat,k ≤ n ∧ i = .int .i64 k ∧ Hid (sameB (xs.drop k) (ys.drop k) = sameB xs ys) ∧ Hid (Below w.heap.size w wr)) (fun _ i _ => n - (intOf i).toNat)
  case atStart => exact ⟨0,Nat.zero_le _,rfl,Lib.hid rfl,Lib.hid (Below.refl _ _)⟩
  case round =>
   obtain ⟨k,hk,rfl,HK,HBz⟩ := hrel
   by_cases hlt : k < n
   ·
    obtain ⟨a,oa,rfl⟩ := HA.out.at (by omega)
    obtain ⟨b,ob,rfl⟩ := HB.out.at (by omega)
    have hkr : k < xs.length := HN.out ▸ hlt
    have hks : k < ys.length := HM.out ▸ hlt
    have HSt := Lib.hid (same_at xs ys k hkr hks)
    obtain ⟨r,hr⟩ : ∃ r,xs[k] = r := ⟨_,rfl⟩
    obtain ⟨s,hs⟩ : ∃ s,ys[k] = s := ⟨_,rfl⟩
    have h1 := (HA.out.row k hkr).below HBz.out
    have h2 := (HB.out.row k hks).below HBz.out
    rw [hr] at h1 HSt
    rw [hs] at h2 HSt
    clear hr hs
    obtain ⟨g0,g1,g2,g3⟩ := h1
    obtain ⟨f0,f1,f2,f3⟩ := h2
    have g0' := cell_regrown g0
    have g1' := cell_regrown g1
    have g2' := cell_regrown g2
    have g3' := cell_regrown g3
    have f0' := cell_regrown f0
    have f1' := cell_regrown f1
    have f2' := cell_regrown f2
    have f3' := cell_regrown f3
    clear g0 g1 g2 g3 f0 f1 f2 f3
    by_cases e0 : r.cat = s.cat
    ·
     have q0 : (r.cat.toList == s.cat.toList) = true := beq_iff_eq.2 (by rw [e0])
     by_cases e1 : r.bp = s.bp
     ·
      have q1 : (r.bp == s.bp) = true := beq_iff_eq.2 e1
      by_cases e2 : r.net = s.net
      ·
       have q2 : (r.net == s.net) = true := beq_iff_eq.2 e2
       by_cases e3 : r.tax = s.tax
       ·
        have q3 : (r.tax == s.tax) = true := beq_iff_eq.2 e3
        have HE : Hid (eqB r s = true) := Lib.hid (decide_eq_true ⟨e0,e1,e2,e3⟩)
        clear e0 e1 e2 e3
        go_wp2
        refine wp_region_quiet_below (by kernel_rfl) (by kernel_rfl) ?_
        repeat (first | go_big_quiet_step (fail) | quiet_step (fail))
        refine wpQuiet_nil ?_
        intro _ hw'
        obtain ⟨⟨dq,osq⟩,hw''⟩ := hw'
        subst hw''
        have HBv := Lib.hid (bchain HBz.out (below_regrown wr dq osq))
        go_wp2
        go_roundw
        case rel => exact ⟨k + 1,by omega,by go_num,Lib.hid (by rw [← HK.out,HSt.out,HE.out,Bool.true_and]),HBv⟩
        case measure => simp [intOf]; omega
       ·
        have q3 : (r.tax == s.tax) = false := beq_eq_false_iff_ne.2 e3
        have HE : Hid (eqB r s = false) := Lib.hid (decide_eq_false fun h => e3 h.2.2.2)
        clear e0 e1 e2 e3
        go_wp2
        refine wp_region_quiet_below (by kernel_rfl) (by kernel_rfl) ?_
        repeat (first | go_big_quiet_step (fail) | quiet_step (fail))
        refine wpQuiet_nil ?_
        intro _ hw'
        obtain ⟨⟨dq,osq⟩,hw''⟩ := hw'
        subst hw''
        have HBv := Lib.hid (bchain HBz.out (below_regrown wr dq osq))
        go_wp2
        go_ret
        exact ⟨ret_bool (by rw [← HK.out,HSt.out,HE.out,Bool.false_and]),bchain HW.out HBv.out⟩
      ·
       have q2 : (r.net == s.net) = false := beq_eq_false_iff_ne.2 e2
       have HE : Hid (eqB r s = false) := Lib.hid (decide_eq_false fun h => e2 h.2.2.1)
       clear e0 e1 e2
       go_wp2
       refine wp_region_quiet_below (by kernel_rfl) (by kernel_rfl) ?_
       repeat (first | go_big_quiet_step (fail) | quiet_step (fail))
       refine wpQuiet_nil ?_
       intro _ hw'
       obtain ⟨⟨dq,osq⟩,hw''⟩ := hw'
       subst hw''
       have HBv := Lib.hid (bchain HBz.out (below_regrown wr dq osq))
       go_wp2
       go_ret
       exact ⟨ret_bool (by rw [← HK.out,HSt.out,HE.out,Bool.false_and]),bchain HW.out HBv.out⟩
     ·
      have q1 : (r.bp == s.bp) = false := beq_eq_false_iff_ne.2 e1
      have HE : Hid (eqB r s = false) := Lib.hid (decide_eq_false fun h => e1 h.2.1)
      clear e0 e1
      go_wp2
      refine wp_region_quiet_below (by kernel_rfl) (by kernel_rfl) ?_
      repeat (first | go_big_quiet_step (fail) | quiet_step (fail))
      refine wpQuiet_nil ?_
      intro _ hw'
      obtain ⟨⟨dq,osq⟩,hw''⟩ := hw'
      subst hw''
      have HBv := Lib.hid (bchain HBz.out (below_regrown wr dq osq))
      go_wp2
      go_ret
      exact ⟨ret_bool (by rw [← HK.out,HSt.out,HE.out,Bool.false_and]),bchain HW.out HBv.out⟩
    ·
     have q0 : (r.cat.toList == s.cat.toList) = false := beq_eq_false_iff_ne.2 fun h => e0 (txt_ext (by rw [← tl,← tl]; exact h))
     have HE : Hid (eqB r s = false) := Lib.hid (decide_eq_false fun h => e0 h.1)
     clear e0
     go_wp2
     refine wp_region_quiet_below (by kernel_rfl) (by kernel_rfl) ?_
     repeat (first | go_big_quiet_step (fail) | quiet_step (fail))
     refine wpQuiet_nil ?_
     intro _ hw'
     obtain ⟨⟨dq,osq⟩,hw''⟩ := hw'
     subst hw''
     have HBv := Lib.hid (bchain HBz.out (below_regrown wr dq osq))
     go_wp2
     go_ret
     exact ⟨ret_bool (by rw [← HK.out,HSt.out,HE.out,Bool.false_and]),bchain HW.out HBv.out⟩
   ·
    obtain rfl : k = n := by omega
    go_wp2
    go_ret
    refine ⟨ret_bool ?_,HW.out.trans (HBz.out.mono HW.out.size)⟩
    rw [← HK.out,List.drop_eq_nil_of_le (Nat.le_of_eq HN.out.symm),List.drop_eq_nil_of_le (Nat.le_of_eq HM.out.symm)]
    rfl
 ·
  have HE := Lib.hid (sameB_len (l := xs) (m := ys) (by rw [← HN.out,← HM.out]; exact hnm))
  have hne : ((n : Int) != (m : Int)) = true := bne_iff_ne.2 (by omega)
  go_enter Tryz.func112,Tryz.ntmps112
  go_wp2
  go_ret
  exact ⟨ret_bool HE.out.symm,HW.out⟩
end Go.Proofs.YtjpfpojbalepeabGreat.Pt
namespace Go.Proofs.YtjpfpojbalepeabGreat
open Go.RowKit
open Mem
open Go.Sort (grow)
set_option maxHeartbeats 4000000 in
theorem bil_same (t u : Iv.Tot) (ao bo : Option Addr) (n ca m cb : Nat) (w0 w : World) (hw : Below w0.heap.size w0 w) (h1 : Pt.Ls w ao n ca t.parts) (h2 : Pt.Ls w bo m cb u.parts) :
  Calls Tryz.prog 83 #[Tt.val t.net t.tax t.gross (.slice ao n ca),Tt.val u.net u.tax u.gross (.slice bo m cb)] w (Bl.YesE w0 (t = u)) := by
 have HW := Lib.hid hw
 obtain ⟨U,hU,hB,k0,k1,hs⟩ := Bl.al2 w (.cells #[.int .i64 t.net,.int .i64 t.tax,.int .i64 t.gross,.slice ao n ca] 57) (.cells #[.int .i64 u.net,.int .i64 u.tax,.int .i64 u.gross,.slice bo m cb] 57)
 have hT : Tt.At U w.heap.size t.net t.tax t.gross (.slice ao n ca) := k0
 have hV : Tt.At U (w.heap.size + 1) u.net u.tax u.gross (.slice bo m cb) := k1
 obtain ⟨x0,x1,x2,x3⟩ := hT.cells
 obtain ⟨y0,y1,y2,y3⟩ := hV.cells
 have HB := Lib.hid hB
 have HL1 := Lib.hid (h1.below hB)
 have HL2 := Lib.hid (h2.below hB)
 clear hw h1 h2 hB k0 k1 hs hT hV
 unfold Tt.val
 by_cases e0 : t.net = u.net
 ·
  have q0 : (t.net == u.net) = true := beq_iff_eq.2 e0
  have E0 := Lib.hid e0
  clear e0
  by_cases e1 : t.tax = u.tax
  ·
   have q1 : (t.tax == u.tax) = true := beq_iff_eq.2 e1
   have E1 := Lib.hid e1
   clear e1
   by_cases e2 : t.gross = u.gross
   ·
    have q2 : (t.gross == u.gross) = true := beq_iff_eq.2 e2
    have E2 := Lib.hid e2
    clear e2
    go_enter Tryz.func83,Tryz.ntmps83
    go_wp2_with fail
    refine (Pt.equal_any t.parts u.parts ao bo n m ca cb U U (Below.refl _ _) HL1.out HL2.out).mono ?_
    rintro e w1 ⟨rfl,b1⟩
    have HB1 := Lib.hid (bchain HB.out b1)
    clear b1
    cases hs : Pt.sameB t.parts u.parts
    ·
     have HNo : Hid (¬ t = u) := Lib.hid fun z => by rw [z,Pt.sameB_self] at hs; cases hs
     clear hs
     go_wp2_with fail
     go_ret
     exact ⟨.inr ⟨HNo.out,rfl⟩,bchain HW.out HB1.out⟩
    ·
     have HYes : Hid (t = u) := Lib.hid (by
      cases t
      cases u
      simp only [Iv.Tot.mk.injEq]
      exact ⟨E0.out,E1.out,E2.out,(Pt.sameB_iff _ _).1 hs⟩)
     clear hs
     go_wp2_with fail
     go_ret
     exact ⟨.inl ⟨HYes.out,rfl⟩,bchain HW.out HB1.out⟩
   ·
    have q2 : (t.gross == u.gross) = false := beq_eq_false_iff_ne.2 e2
    have HNo : Hid (¬ t = u) := Lib.hid fun z => e2 (by rw [z])
    clear e2
    go_enter Tryz.func83,Tryz.ntmps83
    go_wp2_with fail
    go_ret
    exact ⟨.inr ⟨HNo.out,rfl⟩,bchain HW.out HB.out⟩
  ·
   have q1 : (t.tax == u.tax) = false := beq_eq_false_iff_ne.2 e1
   have HNo : Hid (¬ t = u) := Lib.hid fun z => e1 (by rw [z])
   clear e1
   go_enter Tryz.func83,Tryz.ntmps83
   go_wp2_with fail
   go_ret
   exact ⟨.inr ⟨HNo.out,rfl⟩,bchain HW.out HB.out⟩
 ·
  have q0 : (t.net == u.net) = false := beq_eq_false_iff_ne.2 e0
  have HNo : Hid (¬ t = u) := Lib.hid fun z => e0 (by rw [z])
  clear e0
  go_enter Tryz.func83,Tryz.ntmps83
  go_wp2_with fail
  go_ret
  exact ⟨.inr ⟨HNo.out,rfl⟩,bchain HW.out HB.out⟩
end Go.Proofs.YtjpfpojbalepeabGreat
namespace Go.Proofs.YtjpfpojbalepeabGreat
open Go.RowKit
open Vt (Rt)
set_option maxHeartbeats 1000000 in
theorem vat_row (r : Rt) (w0 w : World) (hw : Below w0.heap.size w0 w) (hs : Short r) :
  Calls Tryz.prog 47 #[rowV r] w fun e w' => e = .returned (.int .i64 (Vt.rowE r)) ∧ Below w0.heap.size w0 w' := by
 have HW := Lib.hid hw
 have HS := Lib.hid hs
 clear hw hs
 obtain ⟨cat,y,m,d,bp⟩ := r
 unfold rowV Short at *
 dsimp only at *
 go_enter Tryz.func47,Tryz.ntmps47
 go_wp2_with fail
 refine (name_any cat _ HS.out.1).mono ?_
 rintro e w1 ⟨rfl,b1⟩
 have hC := (rowC_box w ⟨cat,y,m,d,bp⟩).below b1
 have HC := Lib.hid hC
 unfold RowC at hC
 obtain ⟨c0,c1,c2,c3,c4⟩ := hC
 have HB1 := Lib.hid (bchain (below_box HW.out _) b1)
 clear b1
 cases hn : Rn.name (txt cat)
 ·
  have HE := Lib.hid (Vt.rowE_name (r := ⟨cat,y,m,d,bp⟩) hn)
  go_wp2_with fail
  go_ret
  exact ⟨ret_int HE.out.symm,HB1.out⟩
 ·
  have HN := Lib.hid hn
  go_wp2_with fail
  refine (right_date y m d _ _ (Below.refl _ _) HS.out.2.1 HS.out.2.2.1 HS.out.2.2.2.1).mono ?_
  rintro e w2 ⟨rfl,b2⟩
  have hC := HC.out.below b2
  unfold RowC at hC
  obtain ⟨c5,c6,c7,c8,c9⟩ := hC
  have HB2 := Lib.hid (bchain HB1.out b2)
  clear b2
  cases hr : Dt.rightB y m d
  ·
   have HE := Lib.hid (Vt.rowE_day (r := ⟨cat,y,m,d,bp⟩) HN.out hr)
   go_wp2_with fail
   go_ret
   exact ⟨ret_int HE.out.symm,HB2.out⟩
  ·
   have HR := Lib.hid hr
   by_cases h0 : bp < 0
   ·
    have HE := Lib.hid (Vt.rowE_bp (r := ⟨cat,y,m,d,bp⟩) HN.out HR.out (.inl h0))
    go_wp2_with fail
    go_ret
    exact ⟨ret_int HE.out.symm,HB2.out⟩
   ·
    by_cases h1 : 100000 < bp
    ·
     have HE := Lib.hid (Vt.rowE_bp (r := ⟨cat,y,m,d,bp⟩) HN.out HR.out (.inr h1))
     go_wp2_with fail
     go_ret
     exact ⟨ret_int HE.out.symm,HB2.out⟩
    ·
     have HE := Lib.hid (Vt.rowE_0 (r := ⟨cat,y,m,d,bp⟩) |>.2 ⟨HN.out,HR.out,Int.not_lt.1 h0,Int.not_lt.1 h1⟩)
     go_wp2_with fail
     go_ret
     exact ⟨ret_int HE.out.symm,HB2.out⟩
theorem less_self (a : Rt) : Op.bytesLess a.cat.toList a.cat.toList = false := Vt.less_irrefl _
set_option maxHeartbeats 1000000 in
theorem vat_ahead (a b : Rt) (w0 w : World) (hw : Below w0.heap.size w0 w) (ha : Short a) (hb : Short b) (ra : Dt.rightB a.y a.m a.d = true) (rb : Dt.rightB b.y b.m b.d = true) :
  Calls Tryz.prog 48 #[rowV a,rowV b] w fun e w' => e = .returned (.bool (Vt.lt a b)) ∧ Below w0.heap.size w0 w' := by
 have HW := Lib.hid hw
 have HA := Lib.hid ha
 have HB := Lib.hid hb
 have HRR := Lib.hid (ahead_both ra rb)
 clear hw ha hb ra rb
 obtain ⟨W,hW,hbW,hA,hB⟩ := boxed2 w a b
 have HBW : Hid (Below w0.heap.size w0 W) := Lib.hid (bchain HW.out hbW)
 unfold RowC at hA hB
 obtain ⟨a0,a1,a2,a3,a4⟩ := hA
 obtain ⟨b0,b1,b2,b3,b4⟩ := hB
 by_cases hc : a.cat = b.cat
 ·
  have HL := Lib.hid (Vt.lt_same hc)
  have hy : (a.cat.toList == b.cat.toList) = true := beq_iff_eq.2 (by rw [hc])
  have hlf : Op.bytesLess a.cat.toList b.cat.toList = false := by rw [hc]; exact less_self b
  have e1 : Hid (Vt.dy a = Dt.days a.y a.m a.d) := rfl
  have e2 : Hid (Vt.dy b = Dt.days b.y b.m b.d) := rfl
  clear hbW hc
  unfold rowV
  go_enter Tryz.func48,Tryz.ntmps48
  go_wp2_with fail
  refine (before_date a.y a.m a.d b.y b.m b.d w0 _ HBW.out HA.out.2.1 HA.out.2.2.1 HA.out.2.2.2.1 HB.out.2.1 HB.out.2.2.1 HB.out.2.2.2.1).mono ?_
  rintro e w1 ⟨rfl,b5⟩
  have HB1 := Lib.hid b5
  clear b5
  go_wp2_with fail
  go_ret
  exact ⟨ret_bool (by rw [HL.out,e1.out,e2.out,HRR.out]),HB1.out⟩
 ·
  have HL := Lib.hid (Vt.lt_other hc)
  have hy : (a.cat.toList == b.cat.toList) = false := beq_eq_false_iff_ne.2 fun k => hc (Vt.cat_ext k)
  clear hbW hc
  unfold rowV
  cases hl : Op.bytesLess a.cat.toList b.cat.toList
  ·
   go_enter Tryz.func48,Tryz.ntmps48
   go_wp2_with fail
   go_ret
   exact ⟨ret_bool (by rw [HL.out,hl]),HBW.out⟩
  ·
   go_enter Tryz.func48,Tryz.ntmps48
   go_wp2_with fail
   go_ret
   exact ⟨ret_bool (by rw [HL.out,hl]),HBW.out⟩
theorem vat_bare (r : Rt) (w0 w : World) (hw : Below w0.heap.size w0 w) :
  Calls Tryz.prog 133 #[rowV r] w fun e w' => e = .returned (rowV { r with bp := 0 }) ∧ Below w0.heap.size w0 w' := by
 have HW := Lib.hid hw
 clear hw
 obtain ⟨cat,y,m,d,bp⟩ := r
 unfold rowV
 go_enter Tryz.func133,Tryz.ntmps133
 go_wp2
 exact bodyPost_ret (v := rowV ⟨cat,y,m,d,0⟩) (by simp [results,rowV,Tryz.results133,go_sem]) rfl ⟨rfl,below_box (below_box HW.out _) _⟩
end Go.Proofs.YtjpfpojbalepeabGreat
namespace Go.Proofs.YtjpfpojbalepeabGreat
open Go.RowKit
open Vt (Rt)
open Go.Sort (grow)
def Ans (f : FuncId) (args : Array Value) (u : World) (i : Nat) (os : Array Obj) (v : Value) : Prop :=
 Calls Tryz.prog f args (grow (redrawn u i) os) fun e w'' => e = .returned v ∧ ∃ p : Regrown,w'' = grow (redrawn u p.d) p.os
end Go.Proofs.YtjpfpojbalepeabGreat
namespace Go.Proofs.YtjpfpojbalepeabGreat
open Go.RowKit
open Vt (Rt)
open Go.Sort (grow)
theorem vatRow_agg (r : Rt) (hs : Short r) (u : World) (i : Nat) (os : Array Obj) : Ans 47 #[.agg #[.string r.cat,.int .i64 r.y,.int .i64 r.m,.int .i64 r.d,.int .i64 r.bp]] u i os (.int .i64 (Vt.rowE r)) :=
 Calls.regrown_of (vat_row r _ _ (Below.refl _ _) hs)
theorem vatAhead_agg (a b : Rt) (ha : Short a) (hb : Short b) (ra : Vt.rowE a = 0) (rb : Vt.rowE b = 0) (u : World) (i : Nat) (os : Array Obj) : Ans 48 #[.agg #[.string a.cat,.int .i64 a.y,.int .i64 a.m,.int .i64 a.d,.int .i64 a.bp],.agg #[.string b.cat,.int .i64 b.y,.int .i64 b.m,.int .i64 b.d,.int .i64 b.bp]] u i os (.bool (Vt.lt a b)) :=
 Calls.regrown_of (vat_ahead a b _ _ (Below.refl _ _) ha hb (Vt.rowE_0.1 ra).2.1 (Vt.rowE_0.1 rb).2.1)
set_option maxHeartbeats 2000000 in
theorem vat_right (rs : List Rt) (ao : Option Addr) (n cap : Nat) (w0 w : World) (hw : Below w0.heap.size w0 w) (hR : Rts w ao n cap rs) :
  Calls Tryz.prog 28 #[.slice ao n cap] w fun e w' => e = .returned (.bool (Vt.tableB rs)) ∧ Below w0.heap.size w0 w' := by
 have HW := Lib.hid hw
 have HR := Lib.hid hR
 have HN := Lib.hid hR.len
 have hcap := hR.reach
 have hfit := hR.fits
 clear hw hR
 by_cases h24 : 24 < n
 ·
  have HT := Lib.hid (Vt.table_long (l := rs) (HN.out ▸ h24))
  go_enter Tryz.func28,Tryz.ntmps28
  go_wp2
  go_ret
  exact ⟨ret_bool HT.out.symm,HW.out⟩
 ·
  have HT := Lib.hid (Vt.table_short (l := rs) (by have := HN.out; omega))
  go_enter Tryz.func28,Tryz.ntmps28
  go_wp2
  go_loopw [3,4,10] (fun _ _ i wr => ∃ k : Nat,k ≤ n ∧ i = .int .i64 k ∧ Hid (Vt.okAll (Vt.prevAt rs k) (rs.drop k) = Vt.okAll none rs) ∧ Hid (∀ q,Vt.prevAt rs k = some q → Vt.rowE q = 0) ∧ Hid (Below w.heap.size w wr)) (fun _ _ i _ => n - (intOf i).toNat)
  case atStart => exact ⟨0,by omega,rfl,Lib.hid rfl,Lib.hid (fun q h => by unfold Vt.prevAt at h; rw [if_pos rfl] at h; cases h),Lib.hid (Below.refl _ _)⟩
  case round =>
   obtain ⟨k,hk,rfl,HK,HQ,HB⟩ := hrel
   by_cases hlt : k < n
   ·
    obtain ⟨b,off,rfl⟩ := HR.out.at (by omega)
    have hkr : k < rs.length := HN.out ▸ hlt
    obtain ⟨r,hr⟩ : ∃ r,rs[k] = r := ⟨_,rfl⟩
    have hrow := (HR.out.row k hkr).below HB.out
    have HSt := Lib.hid (Vt.okAll_at rs k hkr)
    have HPr : Hid (Vt.prevAt rs (k + 1) = some r) := Lib.hid (by unfold Vt.prevAt; rw [if_neg (by omega),Nat.add_sub_cancel,List.getElem?_eq_getElem hkr,hr])
    rw [hr] at hrow HSt
    have hsh : Short r := HR.out.short r (hr ▸ List.getElem_mem hkr)
    obtain ⟨g0,g1,g2,g3,g4⟩ := hrow
    obtain ⟨W,hW,hbW,hA⟩ := boxed1 wr r
    have HBW := Lib.hid (bchain HB.out hbW)
    clear hbW
    unfold RowC at hA
    obtain ⟨a0,a1,a2,a3,a4⟩ := hA
    have k0 := cell_regrown a0
    have k1 := cell_regrown a1
    have k2 := cell_regrown a2
    have k3 := cell_regrown a3
    have k4 := cell_regrown a4
    have c1 := vatRow_agg r hsh
    by_cases he : Vt.rowE r = 0
    ·
     have hne : (Vt.rowE r != 0) = false := by rw [he]; rfl
     by_cases hk0 : k = 0
     ·
      subst hk0
      simp only [Nat.zero_mul,Nat.add_zero] at g0 g1 g2 g3 g4
      have HO : Hid (Vt.ok (Vt.prevAt rs 0) r = true) := by
       show _ = _
       unfold Vt.ok Vt.prevAt
       rw [decide_eq_true he]
       rfl
      have HE := Lib.hid he
      clear he hr hsh
      go_wp2
      refine wp_region_quiet_below (by kernel_rfl) (by kernel_rfl) ?_
      repeat (first | go_big_quiet_step (first | (go_at_call 47; exact c1 _ _ _)) | quiet_step (first | (go_at_call 47; exact c1 _ _ _)))
      refine wpQuiet_nil ?_
      intro _ hw'
      obtain ⟨⟨dq,osq⟩,hw''⟩ := hw'
      subst hw''
      have HBv := Lib.hid (bchain HBW.out (below_regrown W dq osq))
      go_wp2
      go_roundw
      case rel => exact ⟨1,by omega,rfl,Lib.hid (by rw [← HK.out,HSt.out,HO.out,Bool.true_and]),Lib.hid (fun q h => by rw [HPr.out] at h; cases h; exact HE.out),HBv⟩
      case measure => simp [intOf]; omega
     ·
      obtain ⟨j,rfl⟩ : ∃ j,k = j + 1 := ⟨k - 1,by omega⟩
      have hjr : j < rs.length := by omega
      obtain ⟨q,hq⟩ : ∃ q,rs[j] = q := ⟨_,rfl⟩
      have hrow2 := (HR.out.row j hjr).below HBW.out
      have hqs : Short q := HR.out.short q (hq ▸ List.getElem_mem hjr)
      rw [hq] at hrow2
      obtain ⟨f0,f1,f2,f3,f4⟩ := hrow2
      have m0 := cell_regrown f0
      have m1 := cell_regrown f1
      have m2 := cell_regrown f2
      have m3 := cell_regrown f3
      have m4 := cell_regrown f4
      have hpj : Vt.prevAt rs (j + 1) = some q := by unfold Vt.prevAt; rw [if_neg (by omega),Nat.add_sub_cancel,List.getElem?_eq_getElem hjr,hq]
      have c2 := vatAhead_agg q r hqs hsh (HQ.out q hpj) he
      have HO : Hid (Vt.ok (Vt.prevAt rs (j + 1)) r = Vt.lt q r) := by
       show _ = _
       unfold Vt.ok
       rw [decide_eq_true he,hpj]
       rfl
      have hjs : ((j + 1 : Nat) : Int) - 1 = (j : Int) := by omega
      have HE := Lib.hid he
      clear he hq hk0 hpj hr hsh hqs
      cases hlt2 : Vt.lt q r
      ·
       rw [hlt2] at c2 HO
       go_wp2
       refine wp_region_quiet_below (by kernel_rfl) (by kernel_rfl) ?_
       repeat (first | go_big_quiet_step (first | (go_at_call 47; exact c1 _ _ _) | (go_at_call 48; exact c2 _ _ _)) | quiet_step (first | (go_at_call 47; exact c1 _ _ _) | (go_at_call 48; exact c2 _ _ _)))
       refine wpQuiet_nil ?_
       intro _ hw'
       obtain ⟨⟨dq,osq⟩,hw''⟩ := hw'
       subst hw''
       have HBv := Lib.hid (bchain HBW.out (below_regrown W dq osq))
       go_wp2
       go_ret
       exact ⟨ret_bool (by rw [HT.out,← HK.out,HSt.out,HO.out,Bool.false_and]),bchain HW.out HBv.out⟩
      ·
       rw [hlt2] at c2 HO
       go_wp2
       refine wp_region_quiet_below (by kernel_rfl) (by kernel_rfl) ?_
       repeat (first | go_big_quiet_step (first | (go_at_call 47; exact c1 _ _ _) | (go_at_call 48; exact c2 _ _ _)) | quiet_step (first | (go_at_call 47; exact c1 _ _ _) | (go_at_call 48; exact c2 _ _ _)))
       refine wpQuiet_nil ?_
       intro _ hw'
       obtain ⟨⟨dq,osq⟩,hw''⟩ := hw'
       subst hw''
       have HBv := Lib.hid (bchain HBW.out (below_regrown W dq osq))
       go_wp2
       go_roundw
       case rel => exact ⟨j + 1 + 1,by omega,by go_num,Lib.hid (by rw [← HK.out,HSt.out,HO.out,Bool.true_and]),Lib.hid (fun q h => by rw [HPr.out] at h; cases h; exact HE.out),HBv⟩
       case measure => simp [intOf]; omega
    ·
     have hne : (Vt.rowE r != 0) = true := bne_iff_ne.2 he
     have HO : Hid (Vt.ok (Vt.prevAt rs k) r = false) := by
      show _ = _
      unfold Vt.ok
      rw [decide_eq_false he]
      rfl
     clear he hr hsh
     go_wp2
     refine wp_region_quiet_below (by kernel_rfl) (by kernel_rfl) ?_
     repeat (first | go_big_quiet_step (first | (go_at_call 47; exact c1 _ _ _)) | quiet_step (first | (go_at_call 47; exact c1 _ _ _)))
     refine wpQuiet_nil ?_
     intro _ hw'
     obtain ⟨⟨dq,osq⟩,hw''⟩ := hw'
     subst hw''
     have HBv := Lib.hid (bchain HBW.out (below_regrown W dq osq))
     go_wp2
     go_ret
     exact ⟨ret_bool (by rw [HT.out,← HK.out,HSt.out,HO.out,Bool.false_and]),bchain HW.out HBv.out⟩
   ·
    obtain rfl : k = n := by omega
    go_wp2
    go_ret
    exact ⟨ret_bool (by rw [HT.out,← HK.out,List.drop_eq_nil_of_le (Nat.le_of_eq HN.out.symm)]; rfl),bchain HW.out HB.out⟩
end Go.Proofs.YtjpfpojbalepeabGreat
namespace Go.Proofs.YtjpfpojbalepeabGreat
open Go.RowKit
open Vt (Rt)
open Go.Sort (grow)
namespace Vt
def sameB (r a : Rt) : Bool := decide (a.cat = r.cat) && decide (a.y = r.y) && decide (a.m = r.m) && decide (a.d = r.d)
theorem same_yes {r a : Rt} (h0 : a.cat = r.cat) (h1 : a.y = r.y) (h2 : a.m = r.m) (h3 : a.d = r.d) : sameB r a = true := by
 unfold sameB
 rw [decide_eq_true h0,decide_eq_true h1,decide_eq_true h2,decide_eq_true h3]
 rfl
theorem same_no {r a : Rt} (h : a.cat ≠ r.cat ∨ a.y ≠ r.y ∨ a.m ≠ r.m ∨ a.d ≠ r.d) : sameB r a = false := by
 rw [Bool.eq_false_iff]
 intro k
 unfold sameB at k
 simp only [Bool.and_eq_true,decide_eq_true_iff] at k
 rcases h with h | h | h | h
 · exact h k.1.1.1
 · exact h k.1.1.2
 · exact h k.1.2
 · exact h k.2
theorem same_dy {r a : Rt} (h : sameB r a = true) : a.cat = r.cat ∧ dy a = dy r := by
 unfold sameB at h
 simp only [Bool.and_eq_true,decide_eq_true_iff] at h
 refine ⟨h.1.1.1,?_⟩
 unfold dy
 rw [h.1.1.2,h.1.2,h.2]
theorem same_lt {r a : Rt} (h : lt a r = true ∨ lt r a = true) : sameB r a = false := by
 rw [Bool.eq_false_iff]
 intro k
 obtain ⟨k1,k2⟩ := same_dy k
 rcases h with h | h
 ·
  rw [lt_same k1,decide_eq_true_iff] at h
  omega
 ·
  rw [lt_same k1.symm,decide_eq_true_iff] at h
  omega
theorem any_same (r : Rt) (l : List Rt) (h : ∀ a ∈ l,lt r a = true) : l.any (sameB r) = false := by
 rw [List.any_eq_false]
 intro a ha
 rw [same_lt (.inr (h a ha))]
 simp
theorem taken_any (r : Rt) (hr : rowE r = 0) : ∀ l : List Rt,Sorted l → (∀ a ∈ l,rowE a = 0) → taken l r = l.any (sameB r)
 | [],_,_ => rfl
 | a :: l,hs,he => by
  unfold Sorted at hs
  rw [List.pairwise_cons] at hs
  rw [List.any_cons]
  rcases lt_tri a r with h | ⟨h1,h2⟩ | h
  ·
   rw [taken_cons h,same_lt (.inl h),Bool.false_or]
   exact taken_any r hr l hs.2 fun b hb => he b (List.mem_cons_of_mem _ hb)
  ·
   have ha := rowE_0.1 (he a (List.mem_cons_self ..))
   have hb := rowE_0.1 hr
   have hd : Dt.num a.y a.m a.d = Dt.num r.y r.m r.d := by
    unfold dy at h2
    rw [Dt.days_right ha.2.1,Dt.days_right hb.2.1] at h2
    exact h2
   obtain ⟨e1,e2,e3⟩ := Dt.num_inj ha.2.1 hb.2.1 hd
   have l1 : lt a r = false := by rw [lt_same h1]; exact decide_eq_false (by omega)
   have l2 : lt r a = false := by rw [lt_same h1.symm]; exact decide_eq_false (by omega)
   rw [taken_head l1,l2,same_yes h1 e1 e2 e3]
   rfl
  ·
   rw [taken_head (lt_asymm h),h,same_lt (.inr h),any_same r l fun b hb => lt_trans h (hs.1 b hb)]
   rfl
theorem any_at (r : Rt) (l : List Rt) (k : Nat) (h : k < l.length) : (l.drop k).any (sameB r) = (sameB r l[k] || (l.drop (k + 1)).any (sameB r)) := by
 rw [List.drop_eq_getElem_cons h]
 rfl
end Vt
theorem vatBare_agg (r : Rt) (u : World) (i : Nat) (os : Array Obj) : Ans 133 #[.agg #[.string r.cat,.int .i64 r.y,.int .i64 r.m,.int .i64 r.d,.int .i64 r.bp]] u i os (.agg #[.string r.cat,.int .i64 r.y,.int .i64 r.m,.int .i64 r.d,.int .i64 0]) :=
 Calls.regrown_of (vat_bare r _ _ (Below.refl _ _))
set_option maxHeartbeats 2000000 in
theorem vat_taken (rs : List Rt) (ao : Option Addr) (n cap : Nat) (r : Rt) (w0 w : World) (hw : Below w0.heap.size w0 w) (hR : Rts w ao n cap rs) :
  Calls Tryz.prog 117 #[.slice ao n cap,rowV r] w fun e w' => e = .returned (.bool (rs.any (Vt.sameB r))) ∧ Below w0.heap.size w0 w' := by
 have HW := Lib.hid hw
 have HR := Lib.hid hR
 have HN := Lib.hid hR.len
 have hcap := hR.reach
 have hfit := hR.fits
 clear hw hR
 unfold rowV
 go_enter Tryz.func117,Tryz.ntmps117
 go_wp2
 go_loopw [6,9] (fun _ i wr => ∃ k : Nat,k ≤ n ∧ i = .int .i64 k ∧ Hid ((rs.drop k).any (Vt.sameB r) = rs.any (Vt.sameB r)) ∧ Hid (Below w.heap.size w wr) ∧ Hid (RowC wr w.heap.size r)) (fun _ i _ => n - (intOf i).toNat)
 case atStart => exact ⟨0,by omega,rfl,Lib.hid rfl,Lib.hid (below_boxR w r),Lib.hid (rowC_box w r)⟩
 case round =>
  obtain ⟨k,hk,rfl,HK,HB,HC⟩ := hrel
  by_cases hlt : k < n
  ·
   obtain ⟨b,off,rfl⟩ := HR.out.at (by omega)
   have hkr : k < rs.length := HN.out ▸ hlt
   obtain ⟨q,hq⟩ : ∃ q,rs[k] = q := ⟨_,rfl⟩
   have hrow := (HR.out.row k hkr).below HB.out
   have HSt := Lib.hid (Vt.any_at r rs k hkr)
   rw [hq] at hrow HSt
   clear hq
   obtain ⟨g0,g1,g2,g3,g4⟩ := hrow
   obtain ⟨W,hW,hbW,hA⟩ := boxed1 wr q
   have HBW := Lib.hid (bchain HB.out hbW)
   have hC := HC.out.below hbW
   have HCW := Lib.hid hC
   clear hbW
   unfold RowC at hA hC
   obtain ⟨a0,a1,a2,a3,a4⟩ := hA
   obtain ⟨b0,b1,b2,b3,b4⟩ := hC
   have k0 := cell_regrown a0
   have k1 := cell_regrown a1
   have k2 := cell_regrown a2
   have k3 := cell_regrown a3
   have k4 := cell_regrown a4
   have l0 := cell_regrown b0
   have l1 := cell_regrown b1
   have l2 := cell_regrown b2
   have l3 := cell_regrown b3
   have l4 := cell_regrown b4
   have c1 := vatBare_agg q
   have c2 := vatBare_agg r
   by_cases e : q.cat = r.cat ∧ q.y = r.y ∧ q.m = r.m ∧ q.d = r.d
   ·
    have HS := Lib.hid (Vt.same_yes e.1 e.2.1 e.2.2.1 e.2.2.2)
    have q0 : (q.cat.toList == r.cat.toList) = true := beq_iff_eq.2 (by rw [e.1])
    have q1 : (q.y == r.y) = true := beq_iff_eq.2 e.2.1
    have q2 : (q.m == r.m) = true := beq_iff_eq.2 e.2.2.1
    have q3 : (q.d == r.d) = true := beq_iff_eq.2 e.2.2.2
    clear e
    go_wp2
    refine wp_region_quiet_below (by kernel_rfl) (by kernel_rfl) ?_
    repeat (first | go_big_quiet_step (first | (go_at_call_of 133 (Value.string q.cat); exact c1 _ _ _) | (go_at_call_of 133 (Value.string r.cat); exact c2 _ _ _)) | quiet_step (first | (go_at_call_of 133 (Value.string q.cat); exact c1 _ _ _) | (go_at_call_of 133 (Value.string r.cat); exact c2 _ _ _)))
    refine wpQuiet_nil ?_
    intro _ hw'
    obtain ⟨⟨dq,osq⟩,hw''⟩ := hw'
    subst hw''
    have HBv := Lib.hid (bchain HBW.out (below_regrown W dq osq))
    go_wp2
    go_ret
    exact ⟨ret_bool (by rw [← HK.out,HSt.out,HS.out]; rfl),bchain HW.out HBv.out⟩
   ·
    have HS : Hid (Vt.sameB r q = false) := Lib.hid (Vt.same_no (by
     by_cases e0 : q.cat = r.cat
     ·
      by_cases e1 : q.y = r.y
      ·
       by_cases e2 : q.m = r.m
       · exact .inr (.inr (.inr fun e3 => e ⟨e0,e1,e2,e3⟩))
       · exact .inr (.inr (.inl e2))
      · exact .inr (.inl e1)
     · exact .inl e0))
    have hq : (q.cat.toList == r.cat.toList) = false ∨ ((q.cat.toList == r.cat.toList) = true ∧ (q.y == r.y) = false) ∨ ((q.cat.toList == r.cat.toList) = true ∧ (q.y == r.y) = true ∧ (q.m == r.m) = false) ∨ ((q.cat.toList == r.cat.toList) = true ∧ (q.y == r.y) = true ∧ (q.m == r.m) = true ∧ (q.d == r.d) = false) := by
     by_cases e0 : q.cat = r.cat
     ·
      have h0 : (q.cat.toList == r.cat.toList) = true := beq_iff_eq.2 (by rw [e0])
      by_cases e1 : q.y = r.y
      ·
       by_cases e2 : q.m = r.m
       · exact .inr (.inr (.inr ⟨h0,beq_iff_eq.2 e1,beq_iff_eq.2 e2,beq_eq_false_iff_ne.2 fun e3 => e ⟨e0,e1,e2,e3⟩⟩))
       · exact .inr (.inr (.inl ⟨h0,beq_iff_eq.2 e1,beq_eq_false_iff_ne.2 e2⟩))
      · exact .inr (.inl ⟨h0,beq_eq_false_iff_ne.2 e1⟩)
     · exact .inl (beq_eq_false_iff_ne.2 fun k => e0 (Vt.cat_ext k))
    clear e
    rcases hq with q0 | ⟨q0,q1⟩ | ⟨q0,q1,q2⟩ | ⟨q0,q1,q2,q3⟩
    all_goals
     go_wp2
     refine wp_region_quiet_below (by kernel_rfl) (by kernel_rfl) ?_
     repeat (first | go_big_quiet_step (first | (go_at_call_of 133 (Value.string q.cat); exact c1 _ _ _) | (go_at_call_of 133 (Value.string r.cat); exact c2 _ _ _)) | quiet_step (first | (go_at_call_of 133 (Value.string q.cat); exact c1 _ _ _) | (go_at_call_of 133 (Value.string r.cat); exact c2 _ _ _)))
     refine wpQuiet_nil ?_
     intro _ hw'
     obtain ⟨⟨dq,osq⟩,hw''⟩ := hw'
     subst hw''
     have HBv := Lib.hid (bchain HBW.out (below_regrown W dq osq))
     have HCv := Lib.hid (HCW.out.below (below_regrown W dq osq))
     go_wp2
     go_roundw
     case rel => exact ⟨k + 1,by omega,by go_num,Lib.hid (by rw [← HK.out,HSt.out,HS.out,Bool.false_or]),HBv,HCv⟩
     case measure => simp [intOf]; omega
  ·
   obtain rfl : k = n := by omega
   go_wp2
   go_ret
   exact ⟨ret_bool (by rw [← HK.out,List.drop_eq_nil_of_le (Nat.le_of_eq HN.out.symm)]; rfl),bchain HW.out HB.out⟩
end Go.Proofs.YtjpfpojbalepeabGreat
namespace Go.Proofs.YtjpfpojbalepeabGreat
open Go.RowKit
open Vt (Rt)
def BlockR (w : World) (g : Nat) (ts : List Rt) : Prop := w.heap[g]? = some (.cells (ts.flatMap rv).toArray 26 (0,0))
theorem BlockR.row {w : World} {g : Nat} {ts : List Rt} (h : BlockR w g ts) (k : Nat) (hk : k < ts.length) : RowAt w g (k * 5) ts[k] := by
 have hc : ∀ p,p < 5 → w.cell? ⟨g,k * 5 + p,none⟩ = (rv ts[k])[p]? := by
  intro p hp
  rw [cell_of_row w g _ _ _ _ h,← flat_at ts k p hk hp]
  simp
 exact ⟨hc 0 (by omega),hc 1 (by omega),hc 2 (by omega),hc 3 (by omega),hc 4 (by omega)⟩
theorem BlockR.rts {w : World} {g : Nat} {ts zs : List Rt} (h : BlockR w g (ts ++ zs)) (n cap : Nat) (hn : n = ts.length) (hc : n ≤ cap) (hm : cap ≤ 9223372036854775807) (hs : ∀ r ∈ ts,Short r) : Rts w (some ⟨g,0,none⟩) n cap ts := by
 refine ⟨hn,hc,hm,(fun k => by cases k),.inr ⟨g,0,rfl,fun k hk => ?_⟩,hs⟩
 have hr := h.row k (by rw [List.length_append]; omega)
 rw [List.getElem_append_left hk] at hr
 rw [Nat.zero_add]
 exact hr
def zeroR : Rt := ⟨.empty,0,0,0,0⟩
def zeroV : Value := .agg #[.string .empty,.int .i64 0,.int .i64 0,.int .i64 0,.int .i64 0]
def zerosR (n : Nat) : Array Value := ((List.replicate n zeroR).flatMap rv).toArray
theorem infoZ : (Tryz.prog.info? 26).map (fun i => (i.zero,i.size,i.bytes)) = some (some zeroV,5,48) := by kernel_rfl
theorem sizeZ : (Tryz.prog.info? 26).map (·.size) = some 5 := by kernel_rfl
theorem made_rows (n : Nat) : madeCells zeroV.cells (n * 5) = zerosR n := by
 apply Array.ext_getElem?
 intro j
 by_cases hj : j < n * 5
 ·
  obtain ⟨k,p,rfl,hp⟩ : ∃ k p,j = k * 5 + p ∧ p < 5 := ⟨j / 5,j % 5,by omega,by omega⟩
  have hk : k < n := by omega
  have hz : (zerosR n)[k * 5 + p]? = (rv zeroR)[p]? := by
   unfold zerosR
   rw [List.getElem?_toArray,flat_at (List.replicate n zeroR) k p (by simpa using hk) hp,List.getElem_replicate]
  rw [hz]
  have e : (k * 5 + p) % 5 = p := by omega
  have hp' : p = 0 ∨ p = 1 ∨ p = 2 ∨ p = 3 ∨ p = 4 := by omega
  unfold madeCells
  rw [Array.getElem?_map,Array.getElem?_range,if_pos hj]
  simp only [Option.map_some]
  rw [show zeroV.cells.size = 5 from rfl,e]
  rcases hp' with rfl | rfl | rfl | rfl | rfl <;> rfl
 ·
  rw [Array.getElem?_eq_none (by rw [size_madeCells]; omega),Array.getElem?_eq_none]
  unfold zerosR
  rw [List.size_toArray,flat_len,List.length_replicate]
  omega
theorem make_rows (n : Nat) (hn : n ≤ 1000) (u : World) : (Instr.makeSlice 34 (.int .i64 (n : Int)) (.int .i64 (n : Int))).run Tryz.prog u =
  .ok (.slice (some ⟨u.heap.size,0,none⟩) n n) (u.alloc (.cells (zerosR n) 26)) := by
 obtain ⟨i0,hi,hz0,hz1,hz2⟩ := info_parts infoZ
 have h := run_make (P := Tryz.prog) u 34 26 i0 zeroV Tryz.underlying34 hi hz0 .i64 .i64 (n : Int) (n : Int) (by omega) (Int.le_refl _) (by rw [hz2]; omega) (by omega)
 rw [hz1,Int.toNat_natCast,made_rows] at h
 exact h
theorem block_made (u : World) (n : Nat) : BlockR (u.alloc (.cells (zerosR n) 26)) u.heap.size (List.replicate n zeroR) := heap_alloc_new u _
theorem copy_rows (u : World) (g : Nat) (ts : List Rt) (dCap : Nat) (ao : Option Addr) (n cap : Nat) (rs : List Rt) (hb : BlockR u g (List.replicate n zeroR ++ ts)) (hn : n = rs.length) (hs : SegR u ao rs) :
  ∃ u',(Builtin.copy_ #[34,34] 3 #[.slice (some ⟨g,0,none⟩) (n + ts.length) dCap,.slice ao n cap]).run Tryz.prog u = .ok (goInt n) u' ∧ BlockR u' g (rs ++ ts) ∧ (∀ B w0,Below B w0 u → B ≤ g → Below B w0 u') ∧ u'.heap.size = u.heap.size := by
 obtain ⟨i0,hi,hi5⟩ := Option.map_eq_some_iff.1 sizeZ
 have hmin : Nat.min n (n + ts.length) = n := Nat.min_eq_left (by omega)
 rcases hs with e | ⟨b,off,rfl,hc⟩
 ·
  subst e
  obtain rfl : n = 0 := hn
  refine ⟨u,?_,by simpa using hb,fun _ _ h _ => h,rfl⟩
  have hl : ∀ (x : Addr),(loadCells x 0).run Tryz.prog u = .ok #[] u := fun x => by simpa using run_loadCells_list (P := Tryz.prog) u x [] (by simp)
  cases ao <;> simp [Builtin.copy_,run_underlying Tryz.underlying34,Builtin.lenOf,Builtin.firstCells,sizeOf,typeInfo,hi,storeCells,hl]
 ·
  have hl := run_loadCells_list (P := Tryz.prog) u ⟨b,off,none⟩ (rs.flatMap rv) (fun j v hv => news_of hc j v hv)
  have hst := run_storeCells_at Tryz.prog g 0 26 (rs.flatMap rv) 0 _ u hb (by rw [List.size_toArray,flat_len,flat_len,List.length_append,List.length_replicate]; omega) (oneR rs)
  have hlen : (rs.flatMap rv).length = n * 5 := by rw [flat_len,hn]
  have e : (((List.replicate n zeroR ++ ts).flatMap rv).toArray.toList.take (0 + 0) ++ rs.flatMap rv ++ ((List.replicate n zeroR ++ ts).flatMap rv).toArray.toList.drop (0 + 0 + (rs.flatMap rv).length)) = (rs ++ ts).flatMap rv := by
   rw [List.toList_toArray,List.take_zero,List.nil_append,Nat.zero_add,hlen,List.flatMap_append,List.flatMap_append,List.drop_left' (by rw [flat_len,List.length_replicate])]
  rw [e] at hst
  refine ⟨u.setRow g ((rs ++ ts).flatMap rv).toArray,?_,setRow_heap u g _ _ 26 _ hb,fun B w0 h hB => below_setRow h hB _,by simp [World.setRow]⟩
  rw [hlen] at hl
  simp [Builtin.copy_,run_underlying Tryz.underlying34,Builtin.lenOf,Builtin.firstCells,sizeOf,typeInfo,hi,hi5,hmin,hl,hst]
end Go.Proofs.YtjpfpojbalepeabGreat
namespace Go.Proofs.YtjpfpojbalepeabGreat
open Go.RowKit
open Vt (Rt)
theorem sizeR (u : World) : (sizeOf (Tryz.prog.elem 34)).run Tryz.prog u = .ok 5 u := by
 have h : (Tryz.prog.info? (Tryz.prog.elem 34)).map (·.size) = some 5 := by kernel_rfl
 obtain ⟨i,hi,hs⟩ := Option.map_eq_some_iff.1 h
 simp [sizeOf,typeInfo,hi,hs]
theorem undR : Tryz.prog.underlying 34 = some (.slice (Tryz.prog.elem 34)) := by kernel_rfl
theorem rts_to {w : World} {ao : Option Addr} {n cap : Nat} {rs : List Rt} (h : Rts w ao n cap rs) (k : Nat) (hk : k ≤ n) :
  (∀ u,(Instr.slice 34 (.slice ao n cap) none (some (.int .i64 (k : Int))) none).run Tryz.prog u = .ok (.slice ao k cap) u) ∧ Rts w ao k cap (rs.take k) := by
 have hl := h.len
 have hf := h.fits
 refine ⟨fun u => ?_,⟨by rw [List.length_take]; omega,by omega,h.reach,h.nil,?_,fun r hr => h.short r (List.mem_of_mem_take hr)⟩⟩
 ·
  rw [run_slice_h u 34 ao n cap undR .i64 k (by omega) (by omega),sizeR]
  have e : Option.map (fun x : Addr => x.add 0) ao = ao := by cases ao <;> simp [Addr.add]
  simp [Result.andThen,sliced,e]
 ·
  rcases h.seg with e | ⟨b,off,e,hc⟩
  · exact .inl (by rw [e]; simp)
  ·
   refine .inr ⟨b,off,e,fun j hj => ?_⟩
   rw [List.length_take] at hj
   rw [List.getElem_take]
   exact hc j (by omega)
theorem rts_from {w : World} {ao : Option Addr} {n cap : Nat} {rs : List Rt} (h : Rts w ao n cap rs) (k : Nat) (hk : k ≤ n) :
  ∃ ao2 cap2,(∀ u,(Instr.slice 34 (.slice ao n cap) (some (.int .i64 (k : Int))) none none).run Tryz.prog u = .ok (.slice ao2 (n - k) cap2) u) ∧ Rts w ao2 (n - k) cap2 (rs.drop k) := by
 have hl := h.len
 have hf := h.fits
 refine ⟨if cap = k then ao else ao.map (·.add (k * 5)),cap - k,fun u => ?_,⟨by rw [List.length_drop]; omega,by omega,by have := h.reach; omega,?_,?_,fun r hr => h.short r (List.mem_of_mem_drop hr)⟩⟩
 ·
  rw [run_slice_l u 34 ao n cap undR .i64 k (by omega) (by omega),sizeR]
  simp [Result.andThen,sliced]
 ·
  by_cases e : cap = k
  · omega
  ·
   rw [if_neg e]
   cases ao with
   | none => have := h.nil rfl; omega
   | some a => exact fun k => by cases k
 ·
  by_cases hkn : k = n
  · exact .inl (List.drop_eq_nil_of_le (by omega))
  ·
   rcases h.seg with e | ⟨b,off,rfl,hc⟩
   · exact .inl (by rw [e]; simp)
   ·
    refine .inr ⟨b,off + k * 5,?_,fun j hj => ?_⟩
    ·
     rw [if_neg (by omega)]
     unfold Addr.add
     simp only [Option.map_some,Option.some.injEq]
     split
     ·
      rename_i e
      rw [e]
      rfl
     · rfl
    ·
     rw [List.length_drop] at hj
     rw [List.getElem_drop,show off + k * 5 + j * 5 = off + (k + j) * 5 by omega]
     exact hc (k + j) (by omega)
end Go.Proofs.YtjpfpojbalepeabGreat
namespace Go.Proofs.YtjpfpojbalepeabGreat
open Go.RowKit
open Vt (Rt)
open Go.Sort (grow)
def PutE (w : World) (rs : List Rt) (r : Rt) (e : Ending) (w' : World) : Prop := ∃ v,e = .returned (.tuple #[v,.int .i64 (Vt.putE rs r)]) ∧ OwnR w' w.heap.size v (Vt.putR rs r) ∧ Below w.heap.size w w'
theorem own_nil (w : World) (B : Nat) : OwnR w B (.slice none 0 0) [] := ⟨rfl,.inl ⟨rfl,rfl⟩⟩
theorem put_table {rs : List Rt} {r : Rt} (h : Vt.tableB rs = false) : Vt.putE rs r = 1 ∧ Vt.putR rs r = [] := by
 have e : Vt.putE rs r = 1 := if_pos h
 refine ⟨e,?_⟩
 unfold Vt.putR
 rw [e]
 rfl
theorem put_row {rs : List Rt} {r : Rt} (h : Vt.tableB rs = true) (k : Vt.rowE r ≠ 0) : Vt.putE rs r = Vt.rowE r ∧ Vt.putR rs r = [] := by
 have e : Vt.putE rs r = Vt.rowE r := by
  unfold Vt.putE
  rw [if_neg (by rw [h]; simp),if_pos k]
 refine ⟨e,?_⟩
 unfold Vt.putR
 rw [e,if_neg k]
theorem put_taken {rs : List Rt} {r : Rt} (h : Vt.tableB rs = true) (k : Vt.rowE r = 0) (l : Vt.taken rs r = true) : Vt.putE rs r = 12 ∧ Vt.putR rs r = [] := by
 have e : Vt.putE rs r = 12 := by
  unfold Vt.putE
  rw [if_neg (by rw [h]; simp),if_neg (by simpa using k),if_pos l]
 refine ⟨e,?_⟩
 unfold Vt.putR
 rw [e]
 rfl
theorem put_long {rs : List Rt} {r : Rt} (h : Vt.tableB rs = true) (k : Vt.rowE r = 0) (l : Vt.taken rs r = false) (m : 24 ≤ rs.length) : Vt.putE rs r = 2 ∧ Vt.putR rs r = [] := by
 have e : Vt.putE rs r = 2 := by
  unfold Vt.putE
  rw [if_neg (by rw [h]; simp),if_neg (by simpa using k),if_neg (by rw [l]; simp),if_pos m]
 refine ⟨e,?_⟩
 unfold Vt.putR
 rw [e]
 rfl
theorem put_ok {rs : List Rt} {r : Rt} (h : Vt.tableB rs = true) (k : Vt.rowE r = 0) (l : Vt.taken rs r = false) (m : rs.length < 24) : Vt.putE rs r = 0 ∧ Vt.putR rs r = Vt.putL rs r := by
 have e : Vt.putE rs r = 0 := by
  unfold Vt.putE
  rw [if_neg (by rw [h]; simp),if_neg (by simpa using k),if_neg (by rw [l]; simp),if_neg (by omega)]
 refine ⟨e,?_⟩
 unfold Vt.putR
 rw [e]
 rfl
theorem spot_at (r : Rt) (rs : List Rt) (k : Nat) (h : k < rs.length) : Vt.spot r (rs.drop k) = if Vt.lt rs[k] r = true then Vt.spot r (rs.drop (k + 1)) + 1 else 0 := by
 rw [List.drop_eq_getElem_cons h]
 rfl
theorem below_boxR' (w : World) (r : Rt) : Below w.heap.size w (w.alloc (.cells #[.string r.cat,.int .i64 r.y,.int .i64 r.m,.int .i64 r.d,.int .i64 r.bp] 26)) := (Below.refl _ _).alloc (Nat.le_refl _) _
end Go.Proofs.YtjpfpojbalepeabGreat
namespace Go.Proofs.YtjpfpojbalepeabGreat
open Go.RowKit
open Vt (Rt)
open Go.Sort (grow)
theorem make_cap (n : Nat) (hn : n ≤ 1000) (u : World) : (Instr.makeSlice 34 (.int .i64 0) (.int .i64 ((n : Int) + 1))).run Tryz.prog u =
  .ok (.slice (some ⟨u.heap.size,0,none⟩) 0 (n + 1)) (u.alloc (.cells (zerosR (n + 1)) 26)) := by
 obtain ⟨i0,hi,hz0,hz1,hz2⟩ := info_parts infoZ
 have h := run_make (P := Tryz.prog) u 34 26 i0 zeroV Tryz.underlying34 hi hz0 .i64 .i64 0 ((n : Int) + 1) (by omega) (by omega) (by rw [hz2]; omega) (by omega)
 rw [hz1,show ((n : Int) + 1).toNat = n + 1 from by omega,made_rows] at h
 exact h
theorem own_cap (u : World) (B c : Nat) (hB : B ≤ u.heap.size) (hc : c ≤ 1000) : OwnR (u.alloc (.cells (zerosR c) 26)) B (.slice (some ⟨u.heap.size,0,none⟩) 0 c) [] :=
 ⟨rfl,.inr ⟨u.heap.size,c,zerosR c,rfl,hB,heap_alloc_new u _,Nat.zero_le _,by have : maxLen = 9223372036854775807 := rfl; omega,by unfold zerosR; rw [List.size_toArray,flat_len,List.length_replicate],rfl⟩⟩
set_option maxHeartbeats 4000000 in
theorem vat_with (rs : List Rt) (ao : Option Addr) (n cap : Nat) (r : Rt) (w : World) (hR : Rts w ao n cap rs) (hs : Short r) (hn : n < 24) (hE : ∀ a ∈ rs,Vt.rowE a = 0) (he : Vt.rowE r = 0) :
  Calls Tryz.prog 118 #[.slice ao n cap,rowV r] w fun e w' => ∃ v,e = .returned v ∧ OwnR w' w.heap.size v (Vt.putL rs r) ∧ Below w.heap.size w w' := by
 have HR := Lib.hid hR
 have HS := Lib.hid hs
 have HN := Lib.hid hR.len
 have HE := Lib.hid hE
 have HEr := Lib.hid he
 have hcap := hR.reach
 have hfit := hR.fits
 clear hR hs hE he
 unfold rowV
 go_enter Tryz.func118,Tryz.ntmps118
 go_wp2
 go_loopw [5] (fun i wr => ∃ k : Nat,k ≤ n ∧ i = .int .i64 k ∧ Hid (k + Vt.spot r (rs.drop k) = Vt.spot r rs) ∧ Hid (Below w.heap.size w wr) ∧ Hid (RowC wr w.heap.size r)) (fun i _ => n - (intOf i).toNat)
 case atStart => exact ⟨0,by omega,rfl,Lib.hid (Nat.zero_add _),Lib.hid (below_boxR w r),Lib.hid (rowC_box w r)⟩
 case round =>
  rename World => wz
  obtain ⟨k,hk,rfl,HK,HB,HCz⟩ := hrel
  have hC := HCz.out
  unfold RowC at hC
  obtain ⟨a0,a1,a2,a3,a4⟩ := hC
  have l0 := cell_regrown a0
  have l1 := cell_regrown a1
  have l2 := cell_regrown a2
  have l3 := cell_regrown a3
  have l4 := cell_regrown a4
  by_cases hlt : k < n
  ·
   obtain ⟨b,off,rfl⟩ := HR.out.at (by omega)
   have hkr : k < rs.length := HN.out ▸ hlt
   obtain ⟨q,hq⟩ : ∃ q,rs[k] = q := ⟨_,rfl⟩
   have hmem : q ∈ rs := hq ▸ List.getElem_mem hkr
   have hrow := (HR.out.row k hkr).below HB.out
   have HSt := Lib.hid (spot_at r rs k hkr)
   rw [hq] at hrow HSt
   obtain ⟨g0,g1,g2,g3,g4⟩ := hrow
   have k0 := cell_regrown g0
   have k1 := cell_regrown g1
   have k2 := cell_regrown g2
   have k3 := cell_regrown g3
   have k4 := cell_regrown g4
   have c1 := vatAhead_agg q r (HR.out.short q hmem) HS.out (HE.out q hmem) HEr.out
   clear hq hmem
   cases hqr : Vt.lt q r
   ·
    rw [hqr] at c1
    rw [hqr,if_neg (by simp)] at HSt
    have HSp : Hid (Vt.spot r rs = k) := Lib.hid (by rw [← HK.out,HSt.out]; rfl)
    go_wp2
    refine wp_region_quiet_below (by kernel_rfl) (by kernel_rfl) ?_
    repeat (first | go_big_quiet_step (first | (go_at_call 48; exact c1 _ _ _)) | quiet_step (first | (go_at_call 48; exact c1 _ _ _)))
    refine wpQuiet_nil ?_
    intro _ hw'
    obtain ⟨⟨dq,osq⟩,hw''⟩ := hw'
    subst hw''
    have HBx := Lib.hid (bchain HB.out (below_regrown wz dq osq))
    have HCx := Lib.hid (HCz.out.below (below_regrown wz dq osq))
    clear k0 k1 k2 k3 k4 l0 l1 l2 l3 l4 g0 g1 g2 g3 g4 a0 a1 a2 a3 a4 c1
    generalize grow (redrawn wz dq) osq = x at *
    have HP : Hid (Vt.putL rs r = rs.take k ++ r :: rs.drop k) := Lib.hid (by unfold Vt.putL; rw [HSp.out])
    have HRx := Lib.hid (HR.out.below HBx.out)
    obtain ⟨hs1,hR1⟩ := rts_to HRx.out k (by omega)
    obtain ⟨ao2,cap2,hs2,hR2⟩ := rts_from HRx.out k (by omega)
    obtain ⟨j,hj⟩ : ∃ j,n - k = j := ⟨_,rfl⟩
    rw [hj] at hs2 hR2
    have HR1 := Lib.hid hR1
    have HR2 := Lib.hid hR2
    have hjb : j ≤ 24 := by omega
    have hkb : k ≤ 24 := by omega
    have hmk := make_cap n (by omega)
    clear hR1 hR2 hj
    have hB1 : Below x.heap.size x (x.alloc (.cells (zerosR (n + 1)) 26)) := (Below.refl _ _).alloc (Nat.le_refl _) _
    have HB1 := Lib.hid hB1
    clear hB1
    go_wp2_with (at_builtin; go_must (refine wpList_append_rows _ rfl (.tmp 25) (.tmp 28) rfl x.heap.size (.slice (some ⟨x.heap.size,0,none⟩) 0 (n + 1)) [] rfl (own_cap x x.heap.size (n + 1) (Nat.le_refl _) (by omega)) (some ⟨b,off,none⟩) k cap (rs.take k) rfl HR1.out.len HR1.out.nil (HR1.out.below HB1.out).seg (by simp only [List.length_nil]; omega) (by simp) ?_))
    intro v1 y1 o1 gr1 _
    have hb1 := HB1.out.grown gr1 HB1.out.size (own_ge (own_cap x x.heap.size (n + 1) (Nat.le_refl _) (by omega)))
    have HO1 : Hid (∀ o,OwnR (y1.alloc o) x.heap.size v1 ([] ++ rs.take k)) := fun o => own_alloc o1 o
    have HY1 := Lib.hid hb1
    have hC := HCx.out.below hb1
    have HC1 := Lib.hid hC
    unfold RowC at hC
    obtain ⟨a0,a1,a2,a3,a4⟩ := hC
    have hsz1 : x.heap.size ≤ y1.heap.size := hb1.size
    clear o1 gr1 hb1
    go_wp2_with (at_builtin; go_must (refine wpList_append_rows _ rfl (.tmp 30) (.tmp 32) rfl x.heap.size v1 ([] ++ rs.take k) rfl (HO1.out _) (some ⟨y1.heap.size,0,none⟩) 1 1 [r] rfl rfl (fun h => by cases h) (seg_block (heap_alloc_new y1 _)) (by rw [List.nil_append,← HR1.out.len]; omega) (by simp; omega) ?_))
    intro v2 y2 o2 gr2 _
    have hb2 := (HY1.out.alloc HY1.out.size (rowBlock r)).grown gr2 (HY1.out.alloc HY1.out.size (rowBlock r)).size (own_ge (HO1.out (rowBlock r)))
    have HO2 := Lib.hid o2
    have HY2 := Lib.hid hb2
    clear o2 gr2 hb2 a0 a1 a2 a3 a4
    go_wp2_with (at_builtin; go_must (refine wpList_append_rows _ rfl (.tmp 34) (.tmp 37) rfl x.heap.size v2 ([] ++ rs.take k ++ [r]) rfl HO2.out ao2 j cap2 (rs.drop k) rfl HR2.out.len HR2.out.nil (HR2.out.below HY2.out).seg (by rw [List.nil_append,List.length_append,← HR1.out.len,List.length_singleton]; omega) HY2.out.size ?_))
    intro v3 y3 o3 gr3 _
    have hb3 := HY2.out.grown gr3 HY2.out.size (own_ge HO2.out)
    have HO3 := Lib.hid o3
    have HY3 := Lib.hid hb3
    clear o3 gr3 hb3
    go_wp2
    go_ret
    exact ⟨v3,rfl,by rw [HP.out]; exact own_mono HO3.out HBx.out.size,bchain HBx.out HY3.out⟩
   ·
    rw [hqr] at c1
    rw [hqr,if_pos rfl] at HSt
    go_wp2
    refine wp_region_quiet_below (by kernel_rfl) (by kernel_rfl) ?_
    repeat (first | go_big_quiet_step (first | (go_at_call 48; exact c1 _ _ _)) | quiet_step (first | (go_at_call 48; exact c1 _ _ _)))
    refine wpQuiet_nil ?_
    intro _ hw'
    obtain ⟨⟨dq,osq⟩,hw''⟩ := hw'
    subst hw''
    have HBv := Lib.hid (bchain HB.out (below_regrown wz dq osq))
    go_wp2
    go_roundw
    case rel => exact ⟨k + 1,by omega,by go_num,Lib.hid (by rw [← HK.out,HSt.out]; omega),HBv,Lib.hid (HCz.out.below (below_regrown wz dq osq))⟩
    case measure => simp [intOf]; omega
  ·
   obtain rfl : k = n := by omega
   have HSp : Hid (Vt.spot r rs = k) := Lib.hid (by rw [← HK.out,List.drop_eq_nil_of_le (Nat.le_of_eq HN.out.symm)]; rfl)
   go_wp2
   refine wp_region_quiet_below (by kernel_rfl) (by kernel_rfl) ?_
   repeat (first | go_big_quiet_step (fail) | quiet_step (fail))
   refine wpQuiet_nil ?_
   intro _ hw'
   obtain ⟨⟨dq,osq⟩,hw''⟩ := hw'
   subst hw''
   have HBx := Lib.hid (bchain HB.out (below_regrown wz dq osq))
   have HCx := Lib.hid (HCz.out.below (below_regrown wz dq osq))
   clear l0 l1 l2 l3 l4 a0 a1 a2 a3 a4
   generalize grow (redrawn wz dq) osq = x at *
   have HP : Hid (Vt.putL rs r = rs.take k ++ r :: rs.drop k) := Lib.hid (by unfold Vt.putL; rw [HSp.out])
   have HRx := Lib.hid (HR.out.below HBx.out)
   obtain ⟨hs1,hR1⟩ := rts_to HRx.out k (by omega)
   obtain ⟨ao2,cap2,hs2,hR2⟩ := rts_from HRx.out k (by omega)
   obtain ⟨j,hj⟩ : ∃ j,k - k = j := ⟨_,rfl⟩
   rw [hj] at hs2 hR2
   have HR1 := Lib.hid hR1
   have HR2 := Lib.hid hR2
   have hjb : j ≤ 24 := by omega
   have hkb : k ≤ 24 := by omega
   have hmk := make_cap k (by omega)
   clear hR1 hR2 hj
   have hB1 : Below x.heap.size x (x.alloc (.cells (zerosR (k + 1)) 26)) := (Below.refl _ _).alloc (Nat.le_refl _) _
   have HB1 := Lib.hid hB1
   clear hB1
   go_wp2_with (at_builtin; go_must (refine wpList_append_rows _ rfl (.tmp 25) (.tmp 28) rfl x.heap.size (.slice (some ⟨x.heap.size,0,none⟩) 0 (k + 1)) [] rfl (own_cap x x.heap.size (k + 1) (Nat.le_refl _) (by omega)) ao k cap (rs.take k) rfl HR1.out.len HR1.out.nil (HR1.out.below HB1.out).seg (by simp only [List.length_nil]; omega) (by simp) ?_))
   intro v1 y1 o1 gr1 _
   have hb1 := HB1.out.grown gr1 HB1.out.size (own_ge (own_cap x x.heap.size (k + 1) (Nat.le_refl _) (by omega)))
   have HO1 : Hid (∀ o,OwnR (y1.alloc o) x.heap.size v1 ([] ++ rs.take k)) := fun o => own_alloc o1 o
   have HY1 := Lib.hid hb1
   have hC := HCx.out.below hb1
   have HC1 := Lib.hid hC
   unfold RowC at hC
   obtain ⟨a0,a1,a2,a3,a4⟩ := hC
   have hsz1 : x.heap.size ≤ y1.heap.size := hb1.size
   clear o1 gr1 hb1
   go_wp2_with (at_builtin; go_must (refine wpList_append_rows _ rfl (.tmp 30) (.tmp 32) rfl x.heap.size v1 ([] ++ rs.take k) rfl (HO1.out _) (some ⟨y1.heap.size,0,none⟩) 1 1 [r] rfl rfl (fun h => by cases h) (seg_block (heap_alloc_new y1 _)) (by rw [List.nil_append,← HR1.out.len]; omega) (by simp; omega) ?_))
   intro v2 y2 o2 gr2 _
   have hb2 := (HY1.out.alloc HY1.out.size (rowBlock r)).grown gr2 (HY1.out.alloc HY1.out.size (rowBlock r)).size (own_ge (HO1.out (rowBlock r)))
   have HO2 := Lib.hid o2
   have HY2 := Lib.hid hb2
   clear o2 gr2 hb2 a0 a1 a2 a3 a4
   go_wp2_with (at_builtin; go_must (refine wpList_append_rows _ rfl (.tmp 34) (.tmp 37) rfl x.heap.size v2 ([] ++ rs.take k ++ [r]) rfl HO2.out ao2 j cap2 (rs.drop k) rfl HR2.out.len HR2.out.nil (HR2.out.below HY2.out).seg (by rw [List.nil_append,List.length_append,← HR1.out.len,List.length_singleton]; omega) HY2.out.size ?_))
   intro v3 y3 o3 gr3 _
   have hb3 := HY2.out.grown gr3 HY2.out.size (own_ge HO2.out)
   have HO3 := Lib.hid o3
   have HY3 := Lib.hid hb3
   clear o3 gr3 hb3
   go_wp2
   go_ret
   exact ⟨v3,rfl,by rw [HP.out]; exact own_mono HO3.out HBx.out.size,bchain HBx.out HY3.out⟩
end Go.Proofs.YtjpfpojbalepeabGreat
namespace Go.Proofs.YtjpfpojbalepeabGreat
open Go.RowKit
open Vt (Rt)
open Go.Sort (grow)
set_option maxHeartbeats 2000000 in
theorem vat_put (rs : List Rt) (ao : Option Addr) (n cap : Nat) (r : Rt) (w : World) (hR : Rts w ao n cap rs) (hs : Short r) :
  Calls Tryz.prog 95 #[.slice ao n cap,rowV r] w (PutE w rs r) := by
 have HR := Lib.hid hR
 have HS := Lib.hid hs
 have HN := Lib.hid hR.len
 have hcap := hR.reach
 have hfit := hR.fits
 clear hR hs
 unfold rowV
 go_enter Tryz.func95,Tryz.ntmps95
 go_wp2_with fail
 refine (vat_right rs ao n cap _ _ (Below.refl _ _) (HR.out.below (below_boxR' w r))).mono ?_
 rintro e w1 ⟨rfl,b1⟩
 cases hT : Vt.tableB rs
 ·
  have HP := Lib.hid (put_table (r := r) hT)
  have HB := Lib.hid (bchain (below_boxR' w r) b1)
  clear b1
  go_wp2_with fail
  go_ret2
  exact ⟨_,by rw [HP.out.1]; rfl,by rw [HP.out.2]; exact own_nil _ _,HB.out⟩
 ·
  have HTT := Lib.hid hT
  have hC := (rowC_box w r).below b1
  have HC := Lib.hid hC
  unfold RowC at hC
  obtain ⟨a0,a1,a2,a3,a4⟩ := hC
  have HB1 := Lib.hid (bchain (below_boxR' w r) b1)
  clear b1 hT
  go_wp2_with fail
  refine (vat_row r _ _ (Below.refl _ _) HS.out).mono ?_
  rintro e w2 ⟨rfl,b2⟩
  clear a0 a1 a2 a3 a4
  have hC := HC.out.below b2
  have HC2 := Lib.hid hC
  unfold RowC at hC
  obtain ⟨a0,a1,a2,a3,a4⟩ := hC
  have HB2 := Lib.hid (bchain HB1.out b2)
  clear b2
  by_cases he : Vt.rowE r = 0
  ·
   have HE := Lib.hid he
   have HTk := Lib.hid (Vt.taken_any r HE.out rs ((Vt.table_iff rs).1 HTT.out).2.2 ((Vt.table_iff rs).1 HTT.out).2.1)
   rw [he]
   clear he
   go_wp2_with fail
   refine (vat_taken rs ao n cap r _ _ (Below.refl _ _) (HR.out.below HB2.out)).mono ?_
   rintro e w3 ⟨rfl,b3⟩
   clear a0 a1 a2 a3 a4
   have hC := HC2.out.below b3
   unfold RowC at hC
   obtain ⟨a0,a1,a2,a3,a4⟩ := hC
   have HB3 := Lib.hid (bchain HB2.out b3)
   clear b3
   cases hk : rs.any (Vt.sameB r)
   ·
    have HK : Hid (Vt.taken rs r = false) := Lib.hid (HTk.out.trans hk)
    clear hk
    by_cases h24 : n = 24
    ·
     have hq : ((n : Int) == 24) = true := beq_iff_eq.2 (by omega)
     have HP := Lib.hid (put_long HTT.out HE.out HK.out (by have := HN.out; omega))
     clear h24
     go_wp2_with fail
     go_ret2
     exact ⟨_,by rw [HP.out.1]; rfl,by rw [HP.out.2]; exact own_nil _ _,HB3.out⟩
    ·
     have hq : ((n : Int) == 24) = false := beq_eq_false_iff_ne.2 (by omega)
     have HL : Hid (n < 24) := Lib.hid (by have h1 := ((Vt.table_iff rs).1 HTT.out).1; have := HN.out; omega)
     have HP := Lib.hid (put_ok HTT.out HE.out HK.out (by have := HL.out; have := HN.out; omega))
     clear h24
     go_wp2_with fail
     refine (vat_with rs ao n cap r _ (HR.out.below HB3.out) HS.out HL.out ((Vt.table_iff rs).1 HTT.out).2.1 HE.out).mono ?_
     rintro e w4 ⟨v,rfl,o4,b4⟩
     have HO := Lib.hid (own_mono o4 HB3.out.size)
     have HB4 := Lib.hid (bchain HB3.out b4)
     clear o4 b4
     go_wp2_with fail
     go_ret2
     exact ⟨v,by rw [HP.out.1]; rfl,by rw [HP.out.2]; exact HO.out,HB4.out⟩
   ·
    have HP := Lib.hid (put_taken HTT.out HE.out (HTk.out.trans hk))
    clear hk
    go_wp2_with fail
    go_ret2
    exact ⟨_,by rw [HP.out.1]; rfl,by rw [HP.out.2]; exact own_nil _ _,HB3.out⟩
  ·
   have hne : (Vt.rowE r != 0) = true := bne_iff_ne.2 he
   have HP := Lib.hid (put_row HTT.out he)
   go_wp2_with fail
   go_ret2
   exact ⟨_,by rw [HP.out.1]; rfl,by rw [HP.out.2]; exact own_nil _ _,HB2.out⟩
end Go.Proofs.YtjpfpojbalepeabGreat
namespace Go.Proofs.YtjpfpojbalepeabGreat
open Go.RowKit
open Mem
open Go.Sort (grow)
set_option maxHeartbeats 4000000 in
theorem ses_with (rs : List Sn.T) (ao : Option Addr) (n cap : Nat) (r : Sn.T) (w : World) (hR : Sn.Ls w ao n cap rs) (hn : n < 8) :
  Calls Tryz.prog 89 #[.slice ao n cap,Sn.val r] w fun e w' => ∃ v,e = .returned v ∧ Sn.Own w' w.heap.size v (Sp.openL rs r) ∧ Below w.heap.size w w' := by
 have HR := Lib.hid hR
 have HN := Lib.hid hR.len
 have hcap := hR.reach
 have hfit := hR.fits
 clear hR
 unfold Sn.val
 go_enter Tryz.func89,Tryz.ntmps89
 go_wp2
 go_loopw [5] (fun i wr => ∃ k : Nat,k ≤ n ∧ i = .int .i64 k ∧ Hid (k + Sp.spot r.id (rs.drop k) = Sp.spot r.id rs) ∧ Hid (Below w.heap.size w wr) ∧ Hid (Sn.C wr w.heap.size r)) (fun i _ => n - (intOf i).toNat)
 case atStart => exact ⟨0,by omega,rfl,Lib.hid (Nat.zero_add _),Lib.hid (Sn.below_own w r),Lib.hid (Sn.c_box w r)⟩
 case round =>
  rename World => wz
  obtain ⟨k,hk,rfl,HK,HB,HCz⟩ := hrel
  have hC := HCz.out
  unfold Sn.C at hC
  obtain ⟨a0,a1,a2,a3,a4⟩ := hC
  have l0 := cell_regrown a0
  have l1 := cell_regrown a1
  have l2 := cell_regrown a2
  have l3 := cell_regrown a3
  have l4 := cell_regrown a4
  by_cases hlt : k < n
  ·
   obtain ⟨b,off,rfl⟩ := HR.out.at (by omega)
   have hkr : k < rs.length := HN.out ▸ hlt
   obtain ⟨q,hq⟩ : ∃ q,rs[k] = q := ⟨_,rfl⟩
   have hrow := (HR.out.row k hkr).below HB.out
   have HSt := Lib.hid (Sp.spot_at r.id rs k hkr)
   rw [hq] at hrow HSt
   obtain ⟨g0,g1,g2,g3,g4⟩ := hrow
   have k0 := cell_regrown g0
   have k1 := cell_regrown g1
   have k2 := cell_regrown g2
   have k3 := cell_regrown g3
   have k4 := cell_regrown g4
   clear hq
   unfold Sp.lt at HSt
   cases hqr : decide (q.id < r.id)
   ·
    rw [hqr,if_neg (by simp)] at HSt
    have HSp : Hid (Sp.spot r.id rs = k) := Lib.hid (by rw [← HK.out,HSt.out]; rfl)
    go_wp2
    refine wp_region_quiet_below (by kernel_rfl) (by kernel_rfl) ?_
    repeat (first | go_big_quiet_step (fail) | quiet_step (fail))
    refine wpQuiet_nil ?_
    intro _ hw'
    obtain ⟨⟨dq,osq⟩,hw''⟩ := hw'
    subst hw''
    have HBx := Lib.hid (bchain HB.out (below_regrown wz dq osq))
    have HCx := Lib.hid (HCz.out.below (below_regrown wz dq osq))
    clear l0 l1 l2 l3 l4 a0 a1 a2 a3 a4 k0 k1 k2 k3 k4 g0 g1 g2 g3 g4 hqr
    generalize grow (redrawn wz dq) osq = x at *
    have HP : Hid (Sp.openL rs r = rs.take k ++ r :: rs.drop k) := Lib.hid (by unfold Sp.openL; rw [HSp.out])
    have HRx := Lib.hid (HR.out.below HBx.out)
    obtain ⟨hs1,hR1⟩ := HRx.out.to k (by omega)
    obtain ⟨ao2,cap2,hs2,hR2⟩ := HRx.out.from k (by omega)
    obtain ⟨j,hj⟩ : ∃ j,n - k = j := ⟨_,rfl⟩
    rw [hj] at hs2 hR2
    have HR1 := Lib.hid hR1
    have HR2 := Lib.hid hR2
    have hjb : j ≤ 8 := by omega
    have hkb : k ≤ 8 := by omega
    have hmk := Sn.make_cap n (by omega)
    clear hR1 hR2 hj
    have hB1 : Below x.heap.size x (x.alloc (.cells (Sn.zeros (n + 1)) 80)) := (Below.refl _ _).alloc (Nat.le_refl _) _
    have HB1 := Lib.hid hB1
    clear hB1
    go_wp2_with (at_builtin; go_must (refine Sn.wpList_append _ rfl (.tmp 27) (.tmp 30) rfl x.heap.size (.slice (some ⟨x.heap.size,0,none⟩) 0 (n + 1)) [] rfl (Sn.own_cap x x.heap.size (n + 1) (Nat.le_refl _) (by omega)) (some ⟨b,off,none⟩) k cap (rs.take k) rfl HR1.out.len HR1.out.nil (HR1.out.below HB1.out).seg (by simp only [List.length_nil]; omega) (by simp) ?_))
    intro v1 y1 o1 gr1 _
    have hb1 := HB1.out.grown gr1 HB1.out.size (Sn.own_ge (Sn.own_cap x x.heap.size (n + 1) (Nat.le_refl _) (by omega)))
    have HO1 : Hid (∀ o,Sn.Own (y1.alloc o) x.heap.size v1 ([] ++ rs.take k)) := fun o => Sn.own_alloc o1 o
    have HY1 := Lib.hid hb1
    have hC := HCx.out.below hb1
    unfold Sn.C at hC
    obtain ⟨a0,a1,a2,a3,a4⟩ := hC
    have hsz1 : x.heap.size ≤ y1.heap.size := hb1.size
    clear o1 gr1 hb1
    go_wp2_with (at_builtin; go_must (refine Sn.wpList_append _ rfl (.tmp 32) (.tmp 34) rfl x.heap.size v1 ([] ++ rs.take k) rfl (HO1.out _) (some ⟨y1.heap.size,0,none⟩) 1 1 [r] rfl rfl (fun h => by cases h) (Sn.seg_block (heap_alloc_new y1 _)) (by rw [List.nil_append,← HR1.out.len]; omega) (by simp; omega) ?_))
    intro v2 y2 o2 gr2 _
    have hb2 := (HY1.out.alloc HY1.out.size (Sn.block r)).grown gr2 (HY1.out.alloc HY1.out.size (Sn.block r)).size (Sn.own_ge (HO1.out (Sn.block r)))
    have HO2 := Lib.hid o2
    have HY2 := Lib.hid hb2
    clear o2 gr2 hb2 a0 a1 a2 a3 a4
    go_wp2_with (at_builtin; go_must (refine Sn.wpList_append _ rfl (.tmp 36) (.tmp 39) rfl x.heap.size v2 ([] ++ rs.take k ++ [r]) rfl HO2.out ao2 j cap2 (rs.drop k) rfl HR2.out.len HR2.out.nil (HR2.out.below HY2.out).seg (by rw [List.nil_append,List.length_append,← HR1.out.len,List.length_singleton]; omega) HY2.out.size ?_))
    intro v3 y3 o3 gr3 _
    have hb3 := HY2.out.grown gr3 HY2.out.size (Sn.own_ge HO2.out)
    have HO3 := Lib.hid o3
    have HY3 := Lib.hid hb3
    clear o3 gr3 hb3
    go_wp2
    go_ret
    exact ⟨v3,rfl,by rw [HP.out]; exact Sn.own_mono HO3.out HBx.out.size,bchain HBx.out HY3.out⟩
   ·
    rw [hqr,if_pos rfl] at HSt
    go_wp2
    refine wp_region_quiet_below (by kernel_rfl) (by kernel_rfl) ?_
    repeat (first | go_big_quiet_step (fail) | quiet_step (fail))
    refine wpQuiet_nil ?_
    intro _ hw'
    obtain ⟨⟨dq,osq⟩,hw''⟩ := hw'
    subst hw''
    have HBv := Lib.hid (bchain HB.out (below_regrown wz dq osq))
    go_wp2
    go_roundw
    case rel => exact ⟨k + 1,by omega,by go_num,Lib.hid (by rw [← HK.out,HSt.out]; omega),HBv,Lib.hid (HCz.out.below (below_regrown wz dq osq))⟩
    case measure => simp [intOf]; omega
  ·
   obtain rfl : k = n := by omega
   have HSp : Hid (Sp.spot r.id rs = k) := Lib.hid (by rw [← HK.out,List.drop_eq_nil_of_le (Nat.le_of_eq HN.out.symm)]; rfl)
   go_wp2
   refine wp_region_quiet_below (by kernel_rfl) (by kernel_rfl) ?_
   repeat (first | go_big_quiet_step (fail) | quiet_step (fail))
   refine wpQuiet_nil ?_
   intro _ hw'
   obtain ⟨⟨dq,osq⟩,hw''⟩ := hw'
   subst hw''
   have HBx := Lib.hid (bchain HB.out (below_regrown wz dq osq))
   have HCx := Lib.hid (HCz.out.below (below_regrown wz dq osq))
   clear l0 l1 l2 l3 l4 a0 a1 a2 a3 a4
   generalize grow (redrawn wz dq) osq = x at *
   have HP : Hid (Sp.openL rs r = rs.take k ++ r :: rs.drop k) := Lib.hid (by unfold Sp.openL; rw [HSp.out])
   have HRx := Lib.hid (HR.out.below HBx.out)
   obtain ⟨hs1,hR1⟩ := HRx.out.to k (by omega)
   obtain ⟨ao2,cap2,hs2,hR2⟩ := HRx.out.from k (by omega)
   obtain ⟨j,hj⟩ : ∃ j,k - k = j := ⟨_,rfl⟩
   rw [hj] at hs2 hR2
   have HR1 := Lib.hid hR1
   have HR2 := Lib.hid hR2
   have hjb : j ≤ 8 := by omega
   have hkb : k ≤ 8 := by omega
   have hmk := Sn.make_cap k (by omega)
   clear hR1 hR2 hj
   have hB1 : Below x.heap.size x (x.alloc (.cells (Sn.zeros (k + 1)) 80)) := (Below.refl _ _).alloc (Nat.le_refl _) _
   have HB1 := Lib.hid hB1
   clear hB1
   go_wp2_with (at_builtin; go_must (refine Sn.wpList_append _ rfl (.tmp 27) (.tmp 30) rfl x.heap.size (.slice (some ⟨x.heap.size,0,none⟩) 0 (k + 1)) [] rfl (Sn.own_cap x x.heap.size (k + 1) (Nat.le_refl _) (by omega)) ao k cap (rs.take k) rfl HR1.out.len HR1.out.nil (HR1.out.below HB1.out).seg (by simp only [List.length_nil]; omega) (by simp) ?_))
   intro v1 y1 o1 gr1 _
   have hb1 := HB1.out.grown gr1 HB1.out.size (Sn.own_ge (Sn.own_cap x x.heap.size (k + 1) (Nat.le_refl _) (by omega)))
   have HO1 : Hid (∀ o,Sn.Own (y1.alloc o) x.heap.size v1 ([] ++ rs.take k)) := fun o => Sn.own_alloc o1 o
   have HY1 := Lib.hid hb1
   have hC := HCx.out.below hb1
   unfold Sn.C at hC
   obtain ⟨a0,a1,a2,a3,a4⟩ := hC
   have hsz1 : x.heap.size ≤ y1.heap.size := hb1.size
   clear o1 gr1 hb1
   go_wp2_with (at_builtin; go_must (refine Sn.wpList_append _ rfl (.tmp 32) (.tmp 34) rfl x.heap.size v1 ([] ++ rs.take k) rfl (HO1.out _) (some ⟨y1.heap.size,0,none⟩) 1 1 [r] rfl rfl (fun h => by cases h) (Sn.seg_block (heap_alloc_new y1 _)) (by rw [List.nil_append,← HR1.out.len]; omega) (by simp; omega) ?_))
   intro v2 y2 o2 gr2 _
   have hb2 := (HY1.out.alloc HY1.out.size (Sn.block r)).grown gr2 (HY1.out.alloc HY1.out.size (Sn.block r)).size (Sn.own_ge (HO1.out (Sn.block r)))
   have HO2 := Lib.hid o2
   have HY2 := Lib.hid hb2
   clear o2 gr2 hb2 a0 a1 a2 a3 a4
   go_wp2_with (at_builtin; go_must (refine Sn.wpList_append _ rfl (.tmp 36) (.tmp 39) rfl x.heap.size v2 ([] ++ rs.take k ++ [r]) rfl HO2.out ao2 j cap2 (rs.drop k) rfl HR2.out.len HR2.out.nil (HR2.out.below HY2.out).seg (by rw [List.nil_append,List.length_append,← HR1.out.len,List.length_singleton]; omega) HY2.out.size ?_))
   intro v3 y3 o3 gr3 _
   have hb3 := HY2.out.grown gr3 HY2.out.size (Sn.own_ge HO2.out)
   have HO3 := Lib.hid o3
   have HY3 := Lib.hid hb3
   clear o3 gr3 hb3
   go_wp2
   go_ret
   exact ⟨v3,rfl,by rw [HP.out]; exact Sn.own_mono HO3.out HBx.out.size,bchain HBx.out HY3.out⟩
end Go.Proofs.YtjpfpojbalepeabGreat
namespace Go.Proofs.YtjpfpojbalepeabGreat
open Go.RowKit
open Mem
open Go.Sort (grow)
set_option maxHeartbeats 2000000 in
theorem ses_join (ls : List Sn.T) (i : Int) (ao : Option Addr) (n cap : Nat) (w : World) (hL : Sn.Ls w ao n cap ls) (hi : Fit i) :
  Calls Tryz.prog 60 #[.slice ao n cap,.int .i64 i] w (JoinE w ls i) := by
 have HR := Lib.hid hL
 have HN := Lib.hid hL.len
 have hcap := hL.reach
 have hfit := hL.fits
 clear hL hi
 go_enter Tryz.func60,Tryz.ntmps60
 go_wp2_with fail
 refine (ses_right ls ao n cap _ _ (Below.refl _ _) HR.out).mono ?_
 rintro e w1 ⟨rfl,b1⟩
 have HB1 := Lib.hid b1
 clear b1
 cases hT : Sp.rightB ls
 ·
  have HP := Lib.hid (Sp.join_arg (i := i) hT)
  clear hT
  go_wp2_with fail
  go_ret2
  exact ⟨_,by rw [HP.out.1]; rfl,by rw [HP.out.2]; exact Sn.own_nil _ _,HB1.out⟩
 ·
  have HT := Lib.hid hT
  clear hT
  by_cases hi : i < 1
  ·
   have HP := Lib.hid (Sp.join_low HT.out hi)
   have hd : decide (i < 1) = true := decide_eq_true hi
   clear hi
   go_wp2_with fail
   go_ret2
   exact ⟨_,by rw [HP.out.1]; rfl,by rw [HP.out.2]; exact Sn.own_nil _ _,HB1.out⟩
  ·
   have HI1 := Lib.hid hi
   have hd : decide (i < 1) = false := decide_eq_false hi
   clear hi
   go_wp2_with fail
   refine (ses_index ls i ao n cap _ _ HB1.out (HR.out.below HB1.out)).mono ?_
   rintro e w4 ⟨rfl,b4⟩
   have HB4 := Lib.hid b4
   have HI : Hid (Sp.ix i ls ≤ n) := Lib.hid (by have := Sp.ix_le i ls; have := HN.out; omega)
   clear b4
   obtain ⟨j,hj⟩ : ∃ j,Sp.ix i ls = j := ⟨_,rfl⟩
   have HIx := Lib.hid hj
   rw [hj] at HI
   rw [hj]
   clear hj
   have hin := HI.out
   by_cases hlt : j < n
   ·
    have HP := Lib.hid (Sp.join_taken (i := i) HT.out (by have := HI1.out; omega) (by rw [HIx.out]; exact HN.out ▸ hlt))
    go_wp2_with fail
    go_ret2
    exact ⟨_,by rw [HP.out.1]; rfl,by rw [HP.out.2]; exact Sn.own_nil _ _,HB4.out⟩
   ·
    have HNo : Hid (¬ Sp.ix i ls < ls.length) := Lib.hid (by rw [HIx.out]; exact HN.out ▸ hlt)
    by_cases h8 : n = 8
    ·
     have hq : ((n : Int) == 8) = true := beq_iff_eq.2 (by omega)
     have HP := Lib.hid (Sp.join_full (i := i) HT.out (by have := HI1.out; omega) HNo.out (by have := HN.out; omega))
     clear h8
     go_wp2_with fail
     go_ret2
     exact ⟨_,by rw [HP.out.1]; rfl,by rw [HP.out.2]; exact Sn.own_nil _ _,HB4.out⟩
    ·
     have hq : ((n : Int) == 8) = false := beq_eq_false_iff_ne.2 (by omega)
     have HL8 : Hid (n < 8) := Lib.hid (by have h1 := ((Sp.right_iff ls).1 HT.out).1; have := HN.out; omega)
     have HP := Lib.hid (Sp.join_ok (i := i) HT.out (by have := HI1.out; omega) HNo.out (by have := HL8.out; have := HN.out; omega))
     clear h8
     go_wp2_with fail
     refine (ses_fresh i _ _ HB4.out).mono ?_
     rintro e w6 ⟨rfl,b6⟩
     have HB6 := Lib.hid b6
     clear b6
     go_wp2_with fail
     refine (ses_with ls ao n cap (Sp.new i) _ (HR.out.below HB6.out) HL8.out).mono ?_
     rintro e w5 ⟨v,rfl,o5,b5⟩
     have HO := Lib.hid (Sn.own_mono o5 HB6.out.size)
     have HB5 := Lib.hid (bchain HB6.out b5)
     clear o5 b5
     go_wp2_with fail
     go_ret2
     exact ⟨v,by rw [HP.out.1]; rfl,by rw [HP.out.2]; exact HO.out,HB5.out⟩
theorem Sn.make_room (c : Nat) (hn : c ≤ 1000) (u : World) : (Instr.makeSlice 38 (.int .i64 0) (.int .i64 (c : Int))).run Tryz.prog u =
  .ok (.slice (some ⟨u.heap.size,0,none⟩) 0 c) (u.alloc (.cells (Sn.zeros c) 80)) := by
 obtain ⟨i0,hi,hz0,hz1,hz2⟩ := info_parts Sn.info
 have h := run_make (P := Tryz.prog) u 38 80 i0 Sn.zeroV Tryz.underlying38 hi hz0 .i64 .i64 0 (c : Int) (by omega) (by omega) (by rw [hz2]; omega) (by omega)
 rw [hz1,Int.toNat_natCast,Sn.made] at h
 exact h
set_option maxHeartbeats 2000000 in
theorem ses_leave (ls : List Sn.T) (i : Int) (ao : Option Addr) (n cap : Nat) (w : World) (hL : Sn.Ls w ao n cap ls) (hi : Fit i) :
  Calls Tryz.prog 100 #[.slice ao n cap,.int .i64 i] w (LeaveE w ls i) := by
 have HR := Lib.hid hL
 have HN := Lib.hid hL.len
 have hcap := hL.reach
 have hfit := hL.fits
 clear hL hi
 go_enter Tryz.func100,Tryz.ntmps100
 go_wp2_with fail
 refine (ses_right ls ao n cap _ _ (Below.refl _ _) HR.out).mono ?_
 rintro e w1 ⟨rfl,b1⟩
 have HB1 := Lib.hid b1
 clear b1
 cases hT : Sp.rightB ls
 ·
  have HP := Lib.hid (Sp.leave_arg (i := i) hT)
  clear hT
  go_wp2_with fail
  go_ret2
  exact ⟨_,by rw [HP.out.1]; rfl,by rw [HP.out.2]; exact Sn.own_nil _ _,HB1.out⟩
 ·
  have HT := Lib.hid hT
  have HL8 : Hid (n ≤ 8) := Lib.hid (by have h1 := ((Sp.right_iff ls).1 hT).1; have := HN.out; omega)
  clear hT
  go_wp2_with fail
  refine (ses_index ls i ao n cap _ _ HB1.out (HR.out.below HB1.out)).mono ?_
  rintro e x ⟨rfl,b4⟩
  have HB4 := Lib.hid b4
  have HI : Hid (Sp.ix i ls ≤ n) := Lib.hid (by have := Sp.ix_le i ls; have := HN.out; omega)
  clear b4
  obtain ⟨k,hj⟩ : ∃ j,Sp.ix i ls = j := ⟨_,rfl⟩
  have HIx := Lib.hid hj
  rw [hj] at HI
  rw [hj]
  clear hj
  have hin := HI.out
  by_cases hlt : k < n
  ·
   have hq : ((k : Int) == (n : Int)) = false := beq_eq_false_iff_ne.2 (by omega)
   have HP := Lib.hid (Sp.leave_ok HT.out (by rw [HIx.out]; exact HN.out ▸ hlt))
   rw [HIx.out] at HP
   have HRx := Lib.hid (HR.out.below HB4.out)
   obtain ⟨m,hm⟩ : ∃ m,n = m + 1 := ⟨n - 1,by omega⟩
   have hnm : (n : Int) - 1 = (m : Int) := by omega
   obtain ⟨p,hp⟩ : ∃ p,k + 1 = p := ⟨_,rfl⟩
   have hkp : (k : Int) + 1 = (p : Int) := by omega
   rw [show Sp.cut ls k = [] ++ ls.take k ++ ls.drop p by unfold Sp.cut; rw [hp]; rfl] at HP
   obtain ⟨hs1,hR1⟩ := HRx.out.to k (by omega)
   obtain ⟨ao2,cap2,hs2,hR2⟩ := HRx.out.from p (by omega)
   obtain ⟨j,hj⟩ : ∃ j,n - p = j := ⟨_,rfl⟩
   rw [hj] at hs2 hR2
   have HR1 := Lib.hid hR1
   have HR2 := Lib.hid hR2
   have hmb : m ≤ 8 := by have := HL8.out; omega
   have hjb : j ≤ 8 := by have := HL8.out; omega
   have hkb : k ≤ 8 := by have := HL8.out; omega
   have hmk := Sn.make_room m (by omega)
   clear hR1 hR2 hj hm hp
   have hB1 : Below x.heap.size x (x.alloc (.cells (Sn.zeros m) 80)) := (Below.refl _ _).alloc (Nat.le_refl _) _
   have HB2 := Lib.hid hB1
   clear hB1
   go_wp2_with (at_builtin; go_must (refine Sn.wpList_append _ rfl (.tmp 22) (.tmp 25) rfl x.heap.size (.slice (some ⟨x.heap.size,0,none⟩) 0 m) [] rfl (Sn.own_cap x x.heap.size m (Nat.le_refl _) (by omega)) ao k cap (ls.take k) rfl HR1.out.len HR1.out.nil (HR1.out.below HB2.out).seg (by simp only [List.length_nil]; omega) (by simp) ?_))
   intro v1 y1 o1 gr1 _
   have hb1 := HB2.out.grown gr1 HB2.out.size (Sn.own_ge (Sn.own_cap x x.heap.size m (Nat.le_refl _) (by omega)))
   have HO1 := Lib.hid o1
   have HY1 := Lib.hid hb1
   have hsz1 : x.heap.size ≤ y1.heap.size := hb1.size
   clear o1 gr1 hb1
   go_wp2_with (at_builtin; go_must (refine Sn.wpList_append _ rfl (.tmp 27) (.tmp 31) rfl x.heap.size v1 ([] ++ ls.take k) rfl HO1.out ao2 j cap2 (ls.drop p) rfl HR2.out.len HR2.out.nil (HR2.out.below HY1.out).seg (by rw [List.nil_append,← HR1.out.len]; omega) hsz1 ?_))
   intro v2 y2 o2 gr2 _
   have hb2 := HY1.out.grown gr2 HY1.out.size (Sn.own_ge HO1.out)
   have HO2 := Lib.hid o2
   have HY2 := Lib.hid hb2
   clear o2 gr2 hb2
   go_wp2
   go_ret2
   exact ⟨v2,by rw [HP.out.1]; rfl,by rw [HP.out.2]; exact Sn.own_mono HO2.out HB4.out.size,bchain HB4.out HY2.out⟩
  ·
   obtain rfl : k = n := by omega
   have hq : ((k : Int) == (k : Int)) = true := beq_self_eq_true _
   have HP := Lib.hid (Sp.leave_none HT.out (by rw [HIx.out]; exact HN.out ▸ hlt))
   go_wp2_with fail
   go_ret2
   exact ⟨_,by rw [HP.out.1]; rfl,by rw [HP.out.2]; exact Sn.own_nil _ _,HB4.out⟩
def Rp.none0 : Rp.T := ⟨0,0,0⟩
theorem Rp.frz0 (w : World) (r : Rp.T) (o : Nat) : (Rp.box w r).frozen? ⟨w.heap.size,o,none⟩ = false := frozen_of_row (Rp.box w r) w.heap.size o _ _ (heap_alloc_new w _)
theorem bset30 {w0 u : World} {p : Nat} (h : Below w0.heap.size w0 u) (hp : w0.heap.size ≤ p) (x0 x1 x2 : Value) : Below w0.heap.size w0 (((u.setCell ⟨p,0,none⟩ x0).setCell ⟨p,1,none⟩ x1).setCell ⟨p,2,none⟩ x2) := bset (bset (bset h hp _ _) hp _ _) hp _ _
set_option maxHeartbeats 2000000 in
theorem ses_look (ls : List Sn.T) (i q : Int) (ao : Option Addr) (n cap : Nat) (w0 w : World) (hw : Below w0.heap.size w0 w) (hL : Sn.Ls w ao n cap ls) (hi : Fit i) (hq : Fit q) :
  Calls Tryz.prog 37 #[.slice ao n cap,.int .i64 i,.int .i64 q] w (LookE w0 ls i q) := by
 have HW := Lib.hid hw
 have HR := Lib.hid hL
 have HN := Lib.hid hL.len
 have hcap := hL.reach
 have hfit := hL.fits
 clear hL hi hw hq
 go_enter Tryz.func37,Tryz.ntmps37
 go_wp2_with fail
 refine (ses_right ls ao n cap (Rp.box w Rp.none0) _ (Below.refl _ _) (HR.out.below (Rp.below_own w Rp.none0))).mono ?_
 rintro e w1 ⟨rfl,b1⟩
 cases hT : Sp.rightB ls
 ·
  have HP := Lib.hid (Sp.look_arg (i := i) (q := q) hT)
  have HO := Lib.hid (Sp.look_bad (l := ls) (i := i) (q := q) (by rw [HP.out]; omega))
  have hx := b1
  have hC := (Rp.c_box w Rp.none0).below hx
  unfold Rp.C at hC
  obtain ⟨a0,a1,a2⟩ := hC
  have hsz : w.heap.size < (Rp.box w Rp.none0).heap.size := by rw [Rp.box_size]; omega
  have f0 := ((bcell hx).2 w.heap.size 0 hsz).trans (Rp.frz0 w Rp.none0 0)
  have f1 := ((bcell hx).2 w.heap.size 1 hsz).trans (Rp.frz0 w Rp.none0 1)
  have f2 := ((bcell hx).2 w.heap.size 2 hsz).trans (Rp.frz0 w Rp.none0 2)
  have hB1 := bchain (Rp.below_own w Rp.none0) hx
  have HB1 := Lib.hid (And.intro (bchain HW.out hB1) HW.out.size)
  have HBw := Lib.hid hB1
  clear b1 hx hsz hB1
  clear hT
  go_wp2_with fail
  exact bodyPost_ret (v := .tuple #[Rp.val Rp.none0,.bool false,.int .i64 1]) (by simp [results,Rp.val,Rp.none0,Tryz.results37,go_sem,a0,a1,a2]; try rfl) rfl ⟨by rw [HP.out,HO.out.1,HO.out.2]; rfl,bset30 HB1.out.1 HB1.out.2 _ _ _⟩
 ·
  have HT := Lib.hid hT
  have HB0 := Lib.hid b1
  clear hT b1
  go_wp2_with fail
  refine (ses_index ls i ao n cap (Rp.box w Rp.none0) _ HB0.out (HR.out.below (bchain (Rp.below_own w Rp.none0) HB0.out))).mono ?_
  rintro e w1 ⟨rfl,hx⟩
  have hC := (Rp.c_box w Rp.none0).below hx
  unfold Rp.C at hC
  obtain ⟨a0,a1,a2⟩ := hC
  have hsz : w.heap.size < (Rp.box w Rp.none0).heap.size := by rw [Rp.box_size]; omega
  have f0 := ((bcell hx).2 w.heap.size 0 hsz).trans (Rp.frz0 w Rp.none0 0)
  have f1 := ((bcell hx).2 w.heap.size 1 hsz).trans (Rp.frz0 w Rp.none0 1)
  have f2 := ((bcell hx).2 w.heap.size 2 hsz).trans (Rp.frz0 w Rp.none0 2)
  have hB1 := bchain (Rp.below_own w Rp.none0) hx
  have HB1 := Lib.hid (And.intro (bchain HW.out hB1) HW.out.size)
  have HBw := Lib.hid hB1
  clear hx hsz hB1
  have HI : Hid (Sp.ix i ls ≤ n) := Lib.hid (by have := Sp.ix_le i ls; have := HN.out; omega)
  by_cases hlt : Sp.ix i ls < ls.length
  ·
   have hO := Sp.own_at hlt
   have HLt := Lib.hid hlt
   have hin : Sp.ix i ls < n := by have := HN.out; omega
   obtain ⟨b,off,rfl⟩ := HR.out.at (by omega)
   have hrow := (HR.out.row (Sp.ix i ls) hlt).below HBw.out
   rw [← hO] at hrow
   obtain ⟨r,hr⟩ : ∃ r,Sp.own ls i = r := ⟨_,rfl⟩
   have HRr := Lib.hid hr
   rw [hr] at hrow
   clear hO hr hlt
   obtain ⟨j,hj⟩ : ∃ j,Sp.ix i ls = j := ⟨_,rfl⟩
   rw [hj] at hrow hin
   rw [hj]
   clear hj HI
   obtain ⟨g0,g1,g2,g3,g4⟩ := hrow
   have hq : ((j : Int) == (n : Int)) = false := beq_eq_false_iff_ne.2 (by omega)
   go_wp2_with fail
   refine (ses_numbers q _).mono ?_
   rintro e w2 ⟨rfl,hw2⟩
   have hw3 := hw2.symm
   clear hw2
   subst hw3
   cases hn : Sp.numB q
   ·
    have HP := Lib.hid (Sp.look_seq HT.out HLt.out hn)
    have HO := Lib.hid (Sp.look_bad (l := ls) (i := i) (q := q) (by rw [HP.out]; omega))
    clear hn
    go_wp2_with fail
    exact bodyPost_ret (v := .tuple #[Rp.val Rp.none0,.bool false,.int .i64 1]) (by simp [results,Rp.val,Rp.none0,Tryz.results37,go_sem,a0,a1,a2]; try rfl) rfl ⟨by rw [HP.out,HO.out.1,HO.out.2]; rfl,bset30 HB1.out.1 HB1.out.2 _ _ _⟩
   ·
    have HNm := Lib.hid hn
    clear hn
    by_cases he : q = r.last
    ·
     have HP := Lib.hid (Sp.look_ok HT.out HLt.out HNm.out (by rw [HRr.out]; omega))
     have HO := Lib.hid (Sp.look_old HP.out (by rw [HRr.out]; exact he))
     have hqe : (q == r.last) = true := beq_iff_eq.2 he
     clear he
     go_wp2_with fail
     exact bodyPost_ret (v := .tuple #[Rp.val (Sp.rep r),.bool true,.int .i64 0]) (by simp [results,Rp.val,Sp.rep,Tryz.results37,go_sem,a0,a1,a2]; try rfl) rfl ⟨by rw [HP.out,HO.out.1,HO.out.2,HRr.out],bset30 HB1.out.1 HB1.out.2 _ _ _⟩
    ·
     have hqe : (q == r.last) = false := beq_eq_false_iff_ne.2 he
     by_cases hs : q < r.last
     ·
      have HP := Lib.hid (Sp.look_stale HT.out HLt.out HNm.out (by rw [HRr.out]; exact hs))
      have HO := Lib.hid (Sp.look_bad (l := ls) (i := i) (q := q) (by rw [HP.out]; omega))
      have hqs : decide (q < r.last) = true := decide_eq_true hs
      clear he hs
      go_wp2_with fail
      exact bodyPost_ret (v := .tuple #[Rp.val Rp.none0,.bool false,.int .i64 16]) (by simp [results,Rp.val,Rp.none0,Tryz.results37,go_sem,a0,a1,a2]; try rfl) rfl ⟨by rw [HP.out,HO.out.1,HO.out.2]; rfl,bset30 HB1.out.1 HB1.out.2 _ _ _⟩
     ·
      have HP := Lib.hid (Sp.look_ok HT.out HLt.out HNm.out (by rw [HRr.out]; exact hs))
      have HO := Lib.hid (Sp.look_new HP.out (by rw [HRr.out]; exact he))
      have hqs : decide (q < r.last) = false := decide_eq_false hs
      clear he hs
      go_wp2_with fail
      exact bodyPost_ret (v := .tuple #[Rp.val Rp.none0,.bool false,.int .i64 0]) (by simp [results,Rp.val,Rp.none0,Tryz.results37,go_sem,a0,a1,a2]; try rfl) rfl ⟨by rw [HP.out,HO.out.1,HO.out.2]; rfl,bset30 HB1.out.1 HB1.out.2 _ _ _⟩
  ·
   have HP := Lib.hid (Sp.look_gone (q := q) HT.out hlt)
   have HO := Lib.hid (Sp.look_bad (l := ls) (i := i) (q := q) (by rw [HP.out]; omega))
   have hix : Sp.ix i ls = n := by have := Sp.ix_le i ls; have := HN.out; omega
   rw [hix]
   have hq : ((n : Int) == (n : Int)) = true := beq_self_eq_true _
   clear hlt hix
   go_wp2_with fail
   exact bodyPost_ret (v := .tuple #[Rp.val Rp.none0,.bool false,.int .i64 15]) (by simp [results,Rp.val,Rp.none0,Tryz.results37,go_sem,a0,a1,a2]; try rfl) rfl ⟨by rw [HP.out,HO.out.1,HO.out.2]; rfl,bset30 HB1.out.1 HB1.out.2 _ _ _⟩
set_option maxHeartbeats 4000000 in
theorem ses_keep (ls : List Sn.T) (i q : Int) (r : Rp.T) (ao : Option Addr) (n cap : Nat) (w : World) (hL : Sn.Ls w ao n cap ls) (hi : Fit i) (hq : Fit q) (hr : Rp.Short r) :
  Calls Tryz.prog 71 #[.slice ao n cap,.int .i64 i,.int .i64 q,Rp.val r] w (KeepE w ls i q r) := by
 obtain ⟨U,hU,hbU,hCU⟩ := Rp.boxed1 w r
 have HL := Lib.hid (hL.below hbU)
 have HN := Lib.hid hL.len
 have HBU := Lib.hid hbU
 have HCU := Lib.hid hCU
 have HF := Lib.hid (And.intro hi hq)
 have hcap := hL.reach
 have hfit := hL.fits
 clear hL hbU hCU hi hq hr
 unfold Rp.val
 go_enter Tryz.func71,Tryz.ntmps71
 go_wp2_with fail
 refine (ses_look ls i q ao n cap U _ (Below.refl _ _) HL.out HF.out.1 HF.out.2).mono ?_
 rintro e w1 ⟨rfl,b1⟩
 have HB1 := Lib.hid b1
 clear b1 hU
 obtain ⟨rp,hrp⟩ : ∃ rp,Sp.rep (Sp.lookT ls i q) = rp := ⟨_,rfl⟩
 rw [hrp]
 clear hrp
 unfold Rp.val
 by_cases hE : Sp.lookE ls i q = 0
 ·
  cases hO : Sp.lookO ls i q
  ·
   have HP := Lib.hid (Sp.keep_ok (y := r.why) (n := r.num) (g := r.gross) hE hO)
   obtain ⟨hT,hlt,_⟩ := Sp.look_0 hE
   have hn8 : n ≤ 8 := by have := ((Sp.right_iff ls).1 hT).1; have := HN.out; omega
   have hin : Sp.ix i ls < n := by have := HN.out; omega
   rw [hE]
   obtain ⟨k,hk⟩ : ∃ k,Sp.ix i ls = k := ⟨_,rfl⟩
   have HK := Lib.hid hk
   rw [hk] at hin hlt HP
   have HX := Lib.hid hlt
   have hbx := bchain HB1.out (Rp.below_own w1 rp)
   have hmk := Sn.make n (by omega)
   have hblk0 := Sn.block_made (Rp.box w1 rp) n
   have hbel0 : Below (Rp.box w1 rp).heap.size (Rp.box w1 rp) ((Rp.box w1 rp).alloc (.cells (Sn.zeros n) 80)) := (Below.refl _ _).alloc (Nat.le_refl _) _
   have hbx2 := bchain hbx hbel0
   obtain ⟨W3,hcp,hblk,hbel,hsz⟩ := Sn.copy ((Rp.box w1 rp).alloc (.cells (Sn.zeros n) 80)) (Rp.box w1 rp).heap.size [] n ao n cap ls (by rw [List.append_nil]; exact hblk0) HN.out ((HL.out.below hbx2).seg)
   rw [List.length_nil,Nat.add_zero] at hcp
   rw [List.append_nil] at hblk
   have hb3 := bchain hbx (hbel _ _ hbel0 (Nat.le_refl _))
   have hUs : U.heap.size ≤ (Rp.box w1 rp).heap.size := hbx.size
   have HB3 := Lib.hid hb3
   have HBk := Lib.hid hblk
   have hC := HCU.out.below hb3
   have hUs2 : w.heap.size < U.heap.size := cell_lt HCU.out.1
   rw [Rp.box_size] at hcp HBk hUs
   unfold Rp.box at hcp
   clear hbx hblk0 hbel0 hbx2 hblk hbel hb3 hE hO hT hlt hk hsz
   unfold Rp.C at hC
   obtain ⟨a0,a1,a2⟩ := hC
   have HGt := Lib.hid (show U.heap.size ≤ w1.heap.size + 1 from hUs)
   have hne : ¬ w.heap.size = w1.heap.size + 1 := by omega
   clear hUs
   go_wp2_with fail
   go_region_with (go_at_call 61; refine (ses_index ls i ao n cap W3 _ (by first | exact Below.refl _ _ | exact (Below.refl _ _).drew) (by first | exact HL.out.below HB3.out | exact (HL.out.below HB3.out).below (Below.refl _ _).drew)).mono ?_; rintro e w4 ⟨rfl,b4⟩; rw [HK.out]; have HB4 := Lib.hid b4; have HOw := Lib.hid (Sn.own_of_block (B := w1.heap.size + 1) (HBk.out.below b4) (Nat.le_refl _) HN.out (by omega)); obtain ⟨hAt,hfz,hge⟩ := Sn.own_at HOw.out k HX.out; have d0 := ((bcell b4).1 w.heap.size 0 (cell_lt a0)).trans a0; have d1 := ((bcell b4).1 w.heap.size 1 (cell_lt a0)).trans a1; have d2 := ((bcell b4).1 w.heap.size 2 (cell_lt a0)).trans a2; obtain ⟨c0,c1,c2,c3,c4⟩ := hAt; have f0 := hfz (k * 5); have f1 := hfz (k * 5 + 1); have f2 := hfz (k * 5 + 2); have f3 := hfz (k * 5 + 3); have f4 := hfz (k * 5 + 4); clear b4 hfz hge)
   all_goals
    have HPut := Lib.hid (Sn.own_mono (Sn.own_store HOw.out k HX.out ⟨i,q,r.why,r.num,r.gross⟩) (show w.heap.size ≤ w1.heap.size + 1 by have := HGt.out; omega))
    have HBl := Lib.hid (Sn.below_store (bchain (bchain HBU.out HB3.out) HB4.out) (show w.heap.size ≤ w1.heap.size + 1 by have := HGt.out; omega) k (.int .i64 i) (.int .i64 q) (.int .i64 r.why) (.int .i64 r.num) (.int .i64 r.gross))
    clear c0 c1 c2 c3 c4 d0 d1 d2 f0 f1 f2 f3 f4 a0 a1 a2
    go_wp2_with fail
    go_ret2
    exact ⟨_,by rw [HP.out.1]; rfl,by rw [HP.out.2]; exact HPut.out,HBl.out⟩
  ·
   have HP := Lib.hid (Sp.keep_old (y := r.why) (n := r.num) (g := r.gross) hE hO)
   rw [hE]
   clear hE hO
   go_wp2_with fail
   go_ret2
   exact ⟨_,by rw [HP.out.1]; rfl,by rw [HP.out.2]; exact Sn.own_nil _ _,below_box (bchain HBU.out HB1.out) _⟩
 ·
  have HP := Lib.hid (Sp.keep_bad (y := r.why) (n := r.num) (g := r.gross) hE)
  obtain ⟨e,he⟩ : ∃ e,Sp.lookE ls i q = e := ⟨_,rfl⟩
  have HE := Lib.hid he
  have hne : (e != 0) = true := bne_iff_ne.2 (he ▸ hE)
  rw [he]
  clear he hE
  go_wp2_with fail
  go_ret2
  exact ⟨_,by rw [HP.out.1,HE.out]; rfl,by rw [HP.out.2]; exact Sn.own_nil _ _,below_box (bchain HBU.out HB1.out) _⟩
end Go.Proofs.YtjpfpojbalepeabGreat
namespace Go.Proofs.YtjpfpojbalepeabGreat
open Go.RowKit
open Mem
open Go.Sort (grow)
def AnsSe (f : FuncId) (args : Array Value) (u : World) (i : Nat) (os : Array Obj) (v : Value) : Prop :=
 Calls Tryz.prog f args (grow (redrawn u i) os) fun e w'' => e = .returned v ∧ ∃ p : Regrown,w'' = grow (redrawn u p.d) p.os
theorem ser_limits (n : Int) (w : World) : Calls Tryz.prog 75 #[.int .i64 n] w fun e w' => e = .returned (.bool (Se.lim n)) ∧ w' = w := by
 by_cases h1 : 1 ≤ n
 ·
  by_cases h2 : n ≤ 1099511627776
  ·
   have HL := Lib.hid (Se.lim_iff.2 ⟨h1,h2⟩)
   go_enter Tryz.func75,Tryz.ntmps75
   go_wp2
   go_ret
   exact ⟨ret_bool HL.out.symm,rfl⟩
  ·
   have HL := Lib.hid ((Se.lim_no (n := n)).2 (.inr (by omega)))
   go_enter Tryz.func75,Tryz.ntmps75
   go_wp2
   go_ret
   exact ⟨ret_bool HL.out.symm,rfl⟩
 ·
  have HL := Lib.hid ((Se.lim_no (n := n)).2 (.inl (by omega)))
  go_enter Tryz.func75,Tryz.ntmps75
  go_wp2
  go_ret
  exact ⟨ret_bool HL.out.symm,rfl⟩
set_option maxHeartbeats 2000000 in
theorem ser_sound (r : Sr.T) (w0 w : World) (hw : Below w0.heap.size w0 w) (hs : Sr.Short r) :
  Calls Tryz.prog 49 #[Sr.val r] w fun e w' => e = .returned (.bool (Se.sound r)) ∧ Below w0.heap.size w0 w' := by
 have HW := Lib.hid hw
 have HS := Lib.hid hs
 clear hw hs
 obtain ⟨W,hW,hbW,hC⟩ := Sr.boxed1 w r
 have HBW := Lib.hid (bchain HW.out hbW)
 have HC := Lib.hid hC
 clear hbW
 unfold Sr.C at hC
 obtain ⟨a0,a1,a2,a3⟩ := hC
 unfold Sr.val
 go_enter Tryz.func49,Tryz.ntmps49
 go_wp2_with fail
 refine (name_any r.name _ HS.out.1).mono ?_
 rintro e w1 ⟨rfl,b1⟩
 have hC := HC.out.below b1
 have HC1 := Lib.hid hC
 have HB1 := Lib.hid (bchain HBW.out b1)
 unfold Sr.C at hC
 clear a0 a1 a2 a3 b1 hW HC HBW
 obtain ⟨a0,a1,a2,a3⟩ := hC
 cases hn : Rn.name (txt r.name)
 ·
  have HE := Lib.hid (Se.sound_no (r := r) (.inl hn))
  clear hn
  go_wp2_with fail
  go_ret
  exact ⟨ret_bool HE.out.symm,HB1.out⟩
 ·
  have HN := Lib.hid hn
  clear hn
  go_wp2_with fail
  refine (ser_limits r.limit _).mono ?_
  rintro e w2 ⟨rfl,rfl⟩
  cases hl : Se.lim r.limit
  ·
   have HE := Lib.hid (Se.sound_no (r := r) (.inr (.inl hl)))
   clear hl
   go_wp2_with fail
   go_ret
   exact ⟨ret_bool HE.out.symm,HB1.out⟩
  ·
   have HL := Lib.hid hl
   obtain ⟨hl1,hl2⟩ := Se.lim_iff.1 hl
   clear hl
   by_cases h1 : 1 ≤ r.next
   ·
    by_cases h2 : r.next ≤ r.limit + 1
    ·
     have HE := Lib.hid (Se.sound_iff.2 ⟨HN.out,HL.out,h1,h2⟩)
     go_wp2_with fail
     go_ret
     exact ⟨ret_bool HE.out.symm,HB1.out⟩
    ·
     have HE := Lib.hid (Se.sound_no (r := r) (.inr (.inr (.inr (by omega)))))
     go_wp2_with fail
     go_ret
     exact ⟨ret_bool (by rw [HE.out]; exact decide_eq_false (Int.not_le.2 h2)),HB1.out⟩
   ·
    have HE := Lib.hid (Se.sound_no (r := r) (.inr (.inr (.inl (by omega)))))
    go_wp2_with fail
    go_ret
    exact ⟨ret_bool HE.out.symm,HB1.out⟩
theorem sound_agg (r : Sr.T) (hs : Sr.Short r) (u : World) (i : Nat) (os : Array Obj) : AnsSe 49 #[.agg #[.string r.name,.int .i64 r.next,.int .i64 r.limit,.bool r.shut]] u i os (.bool (Se.sound r)) :=
 Calls.regrown_of (ser_sound r _ _ (Below.refl _ _) hs)
set_option maxHeartbeats 2000000 in
theorem ser_index (ls : List Sr.T) (s : ByteArray) (ao : Option Addr) (n cap : Nat) (w0 w : World) (hw : Below w0.heap.size w0 w) (hL : Sr.Ls w ao n cap ls) :
  Calls Tryz.prog 91 #[.slice ao n cap,.string s] w fun e w' => e = .returned (.int .i64 (Se.ix s ls : Nat)) ∧ Below w0.heap.size w0 w' := by
 have HW := Lib.hid hw
 have HL := Lib.hid hL
 have HN := Lib.hid hL.len
 have hcap := hL.reach
 have hfit := hL.fits
 clear hL hw
 go_enter Tryz.func91,Tryz.ntmps91
 go_wp2_with fail
 go_loopw [5,6,9] (fun _ _ i wr => ∃ k : Nat,k ≤ n ∧ i = .int .i64 k ∧ Hid (∀ r ∈ ls.take k,r.name ≠ s) ∧ Hid (Below w.heap.size w wr)) (fun _ _ i _ => n - (intOf i).toNat)
 case atStart => exact ⟨0,by omega,rfl,Lib.hid (fun _ h => by cases h),Lib.hid (Below.refl _ _)⟩
 case round =>
  obtain ⟨k,hk,rfl,HT,HB⟩ := hrel
  by_cases hlt : k < n
  ·
   obtain ⟨b,off,rfl⟩ := HL.out.at (by omega)
   have hkl : k < ls.length := HN.out ▸ hlt
   obtain ⟨r,hr⟩ : ∃ r,ls[k] = r := ⟨_,rfl⟩
   have hrow := (HL.out.row k hkl).below HB.out
   rw [hr] at hrow
   obtain ⟨g0,g1,g2,g3⟩ := hrow
   obtain ⟨W,hW,hbW,hA⟩ := Sr.boxed1 wr r
   have HBW := Lib.hid (bchain HB.out hbW)
   clear hbW
   unfold Sr.C at hA
   obtain ⟨a0,a1,a2,a3⟩ := hA
   have HS := Lib.hid (List.take_succ_eq_append_getElem hkl)
   by_cases he : r.name = s
   ·
    have HF := Lib.hid (Se.ix_at hkl HT.out (hr ▸ he))
    have qe : (r.name.toList == s.toList) = true := beq_iff_eq.2 (by rw [he])
    clear he hr
    go_wp2_with fail
    go_ret
    exact ⟨by rw [HF.out]; rfl,bchain HW.out HBW.out⟩
   ·
    have HE := Lib.hid he
    have qe : (r.name.toList == s.toList) = false := beq_eq_false_iff_ne.2 fun e => he (Vt.cat_ext e)
    have HR := Lib.hid hr
    clear hr he
    go_wp2_with fail
    go_roundw
    case rel =>
     refine ⟨k + 1,by omega,by go_num,Lib.hid ?_,HBW⟩
     rw [HS.out]
     intro x hx
     rcases List.mem_append.1 hx with h | h
     · exact HT.out x h
     ·
      obtain rfl := List.mem_singleton.1 h
      rw [HR.out]
      exact HE.out
    case measure => simp [intOf]; omega
  ·
   obtain rfl : k = n := by omega
   have HF : Hid (Se.ix s ls = k) := Lib.hid (by
    have := Se.ix_none (s := s) (l := ls) (fun r hr => HT.out r (by rw [List.take_of_length_le (by rw [← HN.out]; exact Nat.le_refl _)]; exact hr))
    rw [this,HN.out])
   go_wp2_with fail
   go_ret
   exact ⟨by rw [HF.out]; rfl,bchain HW.out HB.out⟩
end Go.Proofs.YtjpfpojbalepeabGreat
