/- impostref1: a reader's Flag, Read. (By genlrg.py.) -/
import Derived.Test.YtagjbjppddbalaaZLt4
import Derived.Test.YtagjbjppddbalaaYLtRefRdt
set_option maxRecDepth 100000
set_option linter.unusedVariables false
namespace Go.Proofs.Ytagjbjppddbalaa
open Go.RowKit
open Mem Pk
theorem lref_read (bs : List UInt8) (ao : Option Addr) (m cap : Nat) (w : World) (hL : By.Ls w ao m cap bs) (hm : m ≤ 140737488355328) :
  Calls Try.prog 39 #[.slice ao m cap] w fun e w' => (∃ p bo bc,e = .returned (.pointer (some ⟨p,0,none⟩)) ∧ w.heap.size ≤ p ∧ Rd w' p bo m bc bs ⟨0,0⟩) ∧ Below w.heap.size w w' := by
 have HL := Lib.hid hL
 have HLen := Lib.hid hL.len
 have hcap := hL.reach
 have HBx := Lib.hid ((Below.refl w.heap.size w).alloc (Nat.le_refl _) (.cells #[] 5))
 clear hL
 go_enter Try.func39,Try.ntmps39
 go_wp2_with (at_builtin; go_must (refine By.wpList_append _ rfl (.tmp 3) (.tmp 4) rfl w.heap.size (.slice (some ⟨w.heap.size,0,none⟩) 0 0) [] rfl (By.own_empty (Nat.le_refl _) (heap_alloc_new w _)) ao m cap bs rfl HLen.out HL.out.nil ((HL.out.below HBx.out).seg) (by simp only [List.length_nil]; omega) (by simp) ?_))
 intro v1 y1 o1 gr1 _
 have HB1 := Lib.hid (HBx.out.grown gr1 HBx.out.size (fun k hk => by cases hk; exact Nat.le_refl _))
 obtain ⟨bo,bc,rfl,hls,hbo⟩ := By.own_ls o1
 have HLt : Hid (∀ b off,bo = some ⟨b,off,none⟩ → b ≠ y1.heap.size) := Lib.hid (fun b off e => by
  rcases o1.2 with ⟨h',_⟩ | ⟨g,cap',cur,h',_,hg,_⟩
  ·
   rw [e] at h'
   cases h'
  ·
   rw [e] at h'
   simp only [Value.slice.injEq,Option.some.injEq,Addr.mk.injEq] at h'
   obtain ⟨hl,_⟩ := Array.getElem?_eq_some_iff.1 hg
   omega)
 rw [← HLen.out] at hls ⊢
 have HLs := Lib.hid hls
 have hs1 := HB1.out.size
 clear o1 gr1 hls hbo
 go_wp2
 go_ret
 have bx : Below y1.heap.size y1 (y1.alloc (.cells #[.slice bo m bc,.int .i64 0,.int .i64 0] 66)) := (Below.refl _ _).alloc (Nat.le_refl _) _
 exact ⟨⟨y1.heap.size,bo,bc,rfl,hs1,⟨by simp [go_sem],by simp [go_sem],by simp [go_sem],fun o => by simp [go_sem],HLs.out.below bx,HLt.out,by show 0 ≤ m; omega⟩⟩,bchain HB1.out bx⟩
set_option maxHeartbeats 2000000 in
theorem lref_flag (p : Nat) (ao : Option Addr) (n cap : Nat) (bs : List UInt8) (s : St) (w : World) (hR : Rd w p ao n cap bs s) :
  Calls Try.prog 41 #[.pointer (some ⟨p,0,none⟩)] w fun e w' => e = .returned (.bool (Lr.rFlag bs s).1) ∧ Rd w' p ao n cap bs (Lr.rFlag bs s).2 ∧ Upd w p w' := by
 have HR := Lib.hid hR
 have hpl := hR.place
 have c1 := hR.c1
 clear hR
 go_enter Try.func41,Try.ntmps41
 go_wp2_with fail
 refine (ref_rd_num p ao n cap bs s w HR.out).mono ?_
 rintro e w1 ⟨rfl,hR1,hU1⟩
 have HR1 := Lib.hid hR1
 have HU1 := Lib.hid hU1
 have HZ : Hid ((rNum bs s).2.err ≠ 0 → (rNum bs s).1 = 0) := Lib.hid rNum_zero
 obtain ⟨v,s1,hv⟩ : ∃ v s1,rNum bs s = (v,s1) := ⟨_,_,rfl⟩
 have HV := Lib.hid hv
 rw [hv] at HR1 HZ
 rw [hv]
 dsimp only at HR1 HZ ⊢
 have d1 := HR1.out.c1
 have d2 := HR1.out.c2
 have z1 := HR1.out.fz 1
 have z2 := HR1.out.fz 2
 clear hR1 hU1 c1 hv
 by_cases he : s1.err = 0
 ·
  have qe : (s1.err == 0) = true := beq_iff_eq.2 he
  by_cases h0 : v = 0
  ·
   subst h0
   have HN : Hid (Lr.rFlag bs s = (false,s1)) := Lib.hid (by unfold Lr.rFlag; rw [HV.out]; rfl)
   clear he
   go_wp2_with fail
   go_ret
   exact ⟨by rw [HN.out]; rfl,by rw [HN.out]; exact HR1.out,HU1.out⟩
  ·
   by_cases h1 : v = 1
   ·
    subst h1
    have HN : Hid (Lr.rFlag bs s = (true,s1)) := Lib.hid (by unfold Lr.rFlag; rw [HV.out]; rfl)
    clear he
    go_wp2_with fail
    go_ret
    exact ⟨by rw [HN.out]; rfl,by rw [HN.out]; exact HR1.out,HU1.out⟩
   ·
    have HN : Hid (Lr.rFlag bs s = (false,⟨s.at',4⟩)) := Lib.hid (by unfold Lr.rFlag; rw [HV.out]; exact if_pos ⟨h0,h1⟩)
    have q0 : (v != 0) = true := bne_iff_ne.2 h0
    have q1 : (v != 1) = true := bne_iff_ne.2 h1
    have HE : Hid (Rd ((w1.setCell ⟨p,2,none⟩ (.int .i64 4)).setCell ⟨p,1,none⟩ (.int .i64 (s.at' : Int))) p ao n cap bs ⟨s.at',4⟩) := Lib.hid ((HR1.out.wrong 4).at s.at' hpl)
    have HU : Hid (Upd w p ((w1.setCell ⟨p,2,none⟩ (.int .i64 4)).setCell ⟨p,1,none⟩ (.int .i64 (s.at' : Int)))) := Lib.hid ((HU1.out.trans (Upd.set _)).trans (Upd.set _))
    clear h0 h1 he
    go_wp2_with fail
    go_ret
    exact ⟨by rw [HN.out]; rfl,by rw [HN.out]; exact HE.out,HU.out⟩
 ·
  have qe : (s1.err == 0) = false := beq_eq_false_iff_ne.2 he
  obtain rfl : v = 0 := HZ.out he
  have HN : Hid (Lr.rFlag bs s = (false,s1)) := Lib.hid (by unfold Lr.rFlag; rw [HV.out]; rfl)
  clear he
  go_wp2_with fail
  go_ret
  exact ⟨by rw [HN.out]; rfl,by rw [HN.out]; exact HR1.out,HU1.out⟩
end Go.Proofs.Ytagjbjppddbalaa
