/- THE DOCUMENT's OWN ANSWER: impostref1's Reader: Text, Read; Text. (By genrefrw.py.) -/
import Derived.Test.YtagjbjppddbalaaYLtRefRdw
namespace Go.Proofs.Ytagjbjppddbalaa
open Go.RowKit
open Go.Sort (grow)
open Mem Pk
theorem rText_of {bs : List UInt8} {most : Int} {s s1 : St} {v : Int} (h : rCount bs most s = (v,s1)) : rText bs most s = (str ((bs.take (s1.at' + v.toNat)).drop s1.at'),⟨s1.at' + v.toNat,s1.err⟩) := by unfold rText; rw [h]
theorem rText_none {bs : List UInt8} {most : Int} {s s1 : St} (h : rCount bs most s = (0,s1)) : rText bs most s = (.empty,s1) := by
 rw [rText_of h]
 obtain ⟨a,e⟩ := s1
 have e1 : (bs.take (a + (0 : Int).toNat)).drop a = [] := List.drop_eq_nil_of_le (by rw [List.length_take]; show min (a + 0) _ ≤ a; omega)
 dsimp only
 rw [e1]
 rfl
set_option maxHeartbeats 2000000 in
theorem ref_rd_text (p : Nat) (ao : Option Addr) (n cap : Nat) (bs : List UInt8) (most : Int) (s : St) (w : World) (hR : Rd w p ao n cap bs s) :
  Calls Try.prog 42 #[.pointer (some ⟨p,0,none⟩),.int .i64 most] w fun e w' => e = .returned (.string (rText bs most s).1) ∧ Rd w' p ao n cap bs (rText bs most s).2 ∧ Upd w p w' := by
 have HR := Lib.hid hR
 have hpl := hR.place
 have c1 := hR.c1
 have hcap := hR.ls.reach
 have hfit := hR.ls.fits
 have HLen := Lib.hid hR.ls.len
 clear hR
 go_enter Try.func42,Try.ntmps42
 go_wp2_with fail
 refine (ref_rd_within p ao n cap bs 0 most s w HR.out).mono ?_
 rintro e w1 ⟨rfl,hR1,hU1⟩
 have hvf := rWithin_fit bs 0 most s
 have hpos := rWithin_pos bs most s
 have HZ0 := Lib.hid (rWithin_zero (bs := bs) (lo := 0) (hi := most) (s := s))
 obtain ⟨v,s1,hv⟩ : ∃ v s1,rWithin bs 0 most s = (v,s1) := ⟨_,_,rfl⟩
 have HV := Lib.hid hv
 rw [hv] at hR1 hvf hpos HZ0
 rw [hv]
 dsimp only at hvf hR1 hpos HZ0 ⊢
 unfold Fit at hvf
 have hpl1 := hR1.place
 have k0 := cell_regrown hR1.c0
 have k1 := cell_regrown hR1.c1
 have k2 := cell_regrown hR1.c2
 have HR1 := Lib.hid hR1
 have HU1 := Lib.hid hU1
 clear hR1 hU1 c1 hv
 obtain ⟨a1,e1⟩ := s1
 dsimp only at k1 k2 hpl1 HZ0
 by_cases he : e1 = 0
 ·
  subst he
  by_cases hb : (n : Int) - (a1 : Int) < v
  ·
   have HN : Hid (rText bs most s = (.empty,⟨s.at',3⟩)) := Lib.hid (rText_none (rCount_short (by rw [HV.out,← HLen.out]; exact hb)))
   go_wp2
   refine wp_region_quiet_below (by kernel_rfl) (by kernel_rfl) ?_
   repeat (first | go_big_quiet_step (fail) | quiet_step (fail))
   refine wpQuiet_nil ?_
   intro _ hw'
   obtain ⟨⟨dq,osq⟩,hw''⟩ := hw'
   subst hw''
   have bq := below_regrown w1 dq osq
   have HRq := Lib.hid (HR1.out.below bq)
   have HUq := Lib.hid (HU1.out.trans (Upd.of p bq))
   clear k0 k1 k2 bq
   generalize grow (redrawn w1 dq) osq = x at *
   have d0 := HRq.out.c0
   have d1 := HRq.out.c1
   have d2 := HRq.out.c2
   have df := HRq.out.fz
   dsimp only at d1 d2
   go_wp2
   go_ret
   exact ⟨by rw [HN.out]; rfl,by rw [HN.out]; exact (HRq.out.wrong 3).at s.at' hpl,(HUq.out.trans (Upd.set _)).trans (Upd.set _)⟩
  ·
   have HT : Hid (rText bs most s = (str ((bs.take (a1 + v.toNat)).drop a1),⟨a1 + v.toNat,0⟩)) := Lib.hid (rText_of (by rw [rCount_ok (by rw [HV.out,← HLen.out]; exact hb),HV.out]))
   obtain ⟨q,rfl⟩ : ∃ q : Nat,v = q := ⟨v.toNat,by omega⟩
   rw [Int.toNat_natCast] at HT
   have hin : a1 + q ≤ n := by omega
   go_wp2
   refine wp_region_quiet_below (by kernel_rfl) (by kernel_rfl) ?_
   repeat (first | go_big_quiet_step (fail) | quiet_step (fail))
   refine wpQuiet_nil ?_
   intro _ hw'
   obtain ⟨⟨dq,osq⟩,hw''⟩ := hw'
   subst hw''
   have bq := below_regrown w1 dq osq
   have HRq := Lib.hid (HR1.out.below bq)
   have HUq := Lib.hid (HU1.out.trans (Upd.of p bq))
   clear k0 k1 k2 bq
   generalize grow (redrawn w1 dq) osq = x at *
   have d0 := HRq.out.c0
   have d1 := HRq.out.c1
   have d2 := HRq.out.c2
   have df := HRq.out.fz
   dsimp only at d1 d2
   obtain ⟨ao2,cap2,hsl,hL2⟩ := HRq.out.ls.mid a1 (a1 + q) (by omega) hin
   rw [show ((a1 + q : Nat) : Int) = (a1 : Int) + (q : Int) from by omega,show a1 + q - a1 = q by omega] at hsl
   rw [show a1 + q - a1 = q by omega] at hL2
   have hstr : ∀ (d : Nat) (os : Array Obj),(convert 25 9 (.slice ao2 q cap2)).run Try.prog (grow (redrawn x d) os) = .ok (.string (str ((bs.take (a1 + q)).drop a1))) (grow (redrawn x d) os) := fun d os => (hL2.below (below_regrown x d os)).str
   obtain ⟨S,hS⟩ : ∃ S,str ((bs.take (a1 + q)).drop a1) = S := ⟨_,rfl⟩
   rw [hS] at hstr HT
   have k0 := cell_regrown d0
   have k1 := cell_regrown d1
   clear hS hL2
   go_wp2
   refine wp_region_quiet_below (by kernel_rfl) (by kernel_rfl) ?_
   repeat (first | go_big_quiet_step (fail) | quiet_step (fail))
   refine wpQuiet_nil ?_
   intro _ hw'
   obtain ⟨⟨dz,osz⟩,hw''⟩ := hw'
   subst hw''
   have bz := below_regrown x dz osz
   have HRz := Lib.hid (HRq.out.below bz)
   have HUz := Lib.hid (HUq.out.trans (Upd.of p bz))
   clear k0 k1 bz hstr hsl d0 d1 d2 df
   generalize grow (redrawn x dz) osz = y at *
   have d1 := HRz.out.c1
   have df := HRz.out.fz
   dsimp only at d1
   go_wp2
   go_ret
   refine ⟨by rw [HT.out]; rfl,?_,HUz.out.trans (Upd.set _)⟩
   rw [HT.out]
   have := HRz.out.at (a1 + q) hin
   simpa using this
 ·
  have hv0 : v = 0 := HZ0.out he
  subst hv0
  have HN : Hid (rText bs most s = (.empty,⟨a1,e1⟩)) := Lib.hid (rText_none (by rw [rCount_ok (by rw [HV.out,← HLen.out]; dsimp only; omega),HV.out]))
  have hne : (e1 == 0) = false := beq_eq_false_iff_ne.2 he
  have hne' : (e1 != 0) = true := bne_iff_ne.2 he
  go_wp2
  refine wp_region_quiet_below (by kernel_rfl) (by kernel_rfl) ?_
  repeat (first | go_big_quiet_step (fail) | quiet_step (fail))
  refine wpQuiet_nil ?_
  intro _ hw'
  obtain ⟨⟨dq,osq⟩,hw''⟩ := hw'
  subst hw''
  have bq := below_regrown w1 dq osq
  have HRq := Lib.hid (HR1.out.below bq)
  have HUq := Lib.hid (HU1.out.trans (Upd.of p bq))
  clear k0 k1 k2 bq
  generalize grow (redrawn w1 dq) osq = x at *
  have d0 := HRq.out.c0
  have d1 := HRq.out.c1
  have d2 := HRq.out.c2
  have df := HRq.out.fz
  dsimp only at d1 d2
  go_wp2
  go_ret
  exact ⟨by rw [HN.out]; rfl,by rw [HN.out]; exact HRq.out,HUq.out⟩
set_option maxHeartbeats 2000000 in
theorem ref_read (bs : List UInt8) (ao : Option Addr) (m cap : Nat) (w : World) (hL : By.Ls w ao m cap bs) (hm : m ≤ 1000000000000) :
  Calls Try.prog 39 #[.slice ao m cap] w fun e w' => (∃ p bo bc,e = .returned (.pointer (some ⟨p,0,none⟩)) ∧ w.heap.size ≤ p ∧ Rd w' p bo m bc bs ⟨0,0⟩) ∧ Below w.heap.size w w' := by
 have HL := Lib.hid hL
 have HLen := Lib.hid hL.len
 have hcap := hL.reach
 have HBx := Lib.hid ((Below.refl w.heap.size w).alloc (Nat.le_refl _) (.cells #[] 5))
 clear hL
 go_enter Try.func39,Try.ntmps39
 go_wp2_with (at_builtin; go_must (refine By.wpList_append _ rfl (.tmp 3) (.tmp 4) rfl w.heap.size (.slice (some ⟨w.heap.size,0,none⟩) 0 0) [] rfl (By.own_empty (Nat.le_refl _) (heap_alloc_new w _)) ao m cap bs rfl HLen.out HL.out.nil ((HL.out.below HBx.out).seg) (by simp only [List.length_nil]; omega) (by simp) ?_))
 intro v1 y1 o1 gr1 _
 have HB1 := Lib.hid (HBx.out.grown gr1 HBx.out.size (fun k hk => by cases hk; exact Nat.le_refl _))
 obtain ⟨bo,bc,rfl,hls,hbo⟩ := By.own_ls o1
 have HLt : Hid (∀ b off,bo = some ⟨b,off,none⟩ → b ≠ y1.heap.size) := Lib.hid (fun b off e => by
  rcases o1.2 with ⟨h',_⟩ | ⟨g,cap',cur,h',_,hg,_⟩
  ·
   rw [e] at h'
   cases h'
  ·
   rw [e] at h'
   simp only [Value.slice.injEq,Option.some.injEq,Addr.mk.injEq] at h'
   obtain ⟨hl,_⟩ := Array.getElem?_eq_some_iff.1 hg
   omega)
 rw [← HLen.out] at hls ⊢
 have HLs := Lib.hid hls
 have hs1 := HB1.out.size
 clear o1 gr1 hls hbo
 go_wp2
 go_ret
 have bx : Below y1.heap.size y1 (y1.alloc (.cells #[.slice bo m bc,.int .i64 0,.int .i64 0] 66)) := (Below.refl _ _).alloc (Nat.le_refl _) _
 exact ⟨⟨y1.heap.size,bo,bc,rfl,hs1,⟨by simp [go_sem],by simp [go_sem],by simp [go_sem],fun o => by simp [go_sem],HLs.out.below bx,HLt.out,by show 0 ≤ m; omega⟩⟩,bchain HB1.out bx⟩
set_option maxHeartbeats 2000000 in
theorem ref_text (bs : List UInt8) (s : ByteArray) (hs : s.size ≤ 1000000000000) (ao : Option Addr) (m cap : Nat) (w : World) (hL : By.Ls w ao m cap bs) (hm : m ≤ 1000000000000) :
  Calls Try.prog 33 #[.slice ao m cap,.string s] w fun e w' => (∃ sv,e = .returned sv ∧ By.Own w' w.heap.size sv (bs ++ vb (zz s.size) ++ txt s)) ∧ Below w.heap.size w w' := by
 have HL := Lib.hid hL
 have HLen := Lib.hid hL.len
 have hcap := hL.reach
 obtain ⟨z,hz⟩ : ∃ z,s.size = z := ⟨_,rfl⟩
 have HZ := Lib.hid hz
 rw [hz] at hs ⊢
 obtain ⟨i0,hi,hz0,hz1,hz2⟩ := info_parts By.info
 clear hL
 go_enter Try.func33,Try.ntmps33
 go_wp2_with fail
 refine (ref_num bs (z : Int) ⟨by omega,by omega⟩ ao m cap w HL.out hm).mono ?_
 rintro e w1 ⟨⟨sv,rfl,ho⟩,b1⟩
 have HO := Lib.hid ho
 have HB1 := Lib.hid b1
 have hs1 := b1.size
 have HLl : Hid ((bs ++ vb (zz (z : Int))).length ≤ 1000000000010) := Lib.hid (by
  have := vbF_len 10 (zz (z : Int))
  rw [List.length_append,← HLen.out]
  unfold vb
  omega)
 clear ho b1
 go_wp2_with (at_builtin; go_must (refine Lib.wpList_append_own_string _ rfl (.tmp 8) (.tmp 9) 25 9 rfl w.heap.size 5 i0 Try.underlying25 Try.underlying9 hi hz0 hz1 hz2 sv (bs ++ vb (zz (z : Int))).length ((bs ++ vb (zz (z : Int))).map By.bv) rfl HO.out s rfl (by unfold maxLen; have := HLl.out; have := HZ.out; omega) (by have := HLl.out; have := HZ.out; omega) hs1 ?_))
 intro v2 y2 o2 gr2 _
 have HB2 := Lib.hid (HB1.out.grown gr2 HB1.out.size (By.own_ge HO.out))
 have HO2 : Hid (By.Own y2 w.heap.size v2 (bs ++ vb (zz (z : Int)) ++ txt s)) := Lib.hid (by
  have e : Lib.strCells s = (txt s).map By.bv := rfl
  rw [e] at o2
  unfold By.Own
  simp only [List.map_append,List.length_append,txt_len,HZ.out,List.append_assoc]
  simpa only [Nat.add_assoc] using o2)
 clear o2 gr2
 go_wp2
 go_ret
 exact ⟨⟨v2,rfl,HO2.out⟩,HB2.out⟩
end Go.Proofs.Ytagjbjppddbalaa
