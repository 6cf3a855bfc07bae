/- THE DOCUMENT's OWN ANSWER: impostref1's Num, Text. -/
import Derived.Test.YtagjbjppddbalaaZLt1
import Derived.Test.YtagjbjppddbalaaZLt2
import Derived.Lib.AppendStr
namespace Go.Proofs.Ytagjbjppddbalaa
open Go.RowKit
open Mem Pk
theorem xor_flip (x y : Int) (h1 : 0 ≤ x) (h2 : x < 18446744073709551616) (h3 : 0 ≤ y) (h4 : y < 18446744073709551616) : bits .xor .u64 x y = bits .xor .u64 y x := by
 rw [u64_xor x y h1 h2 h3 h4,u64_xor y x h3 h4 h1 h2,Nat.xor_comm]
theorem ref_fold_neg (n : Int) (hn : Fit n) (h : n < 0) : bits .xor .u64 (IntKind.u64.wrap (IntKind.u64.wrap n * 2)) 18446744073709551615 = (zz n : Int) := by
 have hz := Lib.zigzag_neg hn.1 h
 rw [← zz_lib] at hz
 have e1 : 0 ≤ IntKind.u64.wrap (IntKind.u64.wrap n * 2) ∧ IntKind.u64.wrap (IntKind.u64.wrap n * 2) < 18446744073709551616 := by
  rw [IntKind.wrap_u64]
  omega
 rw [xor_flip _ _ e1.1 e1.2 (by omega) (by omega),← hz]
 rfl
theorem ref_fold_pos (x : Int) (h1 : 0 ≤ x) (h2 : x < 18446744073709551616) : bits .xor .u64 x 0 = x := by
 rw [u64_xor x 0 h1 h2 (by omega) (by omega)]
 simp
 omega
set_option maxHeartbeats 2000000 in
theorem ref_num (bs : List UInt8) (n : Int) (hn : Fit n) (ao : Option Addr) (m cap : Nat) (w : World) (hL : By.Ls w ao m cap bs) (hm : m ≤ 1000000000000) :
  Calls Try.prog 32 #[.slice ao m cap,.int .i64 n] w fun e w' => (∃ sv,e = .returned sv ∧ By.Own w' w.heap.size sv (bs ++ vb (zz n))) ∧ Below w.heap.size w w' := by
 have HF := Lib.hid hn
 have HL := Lib.hid hL
 have HLen := Lib.hid hL.len
 have hcap := hL.reach
 have hbx := (Below.refl w.heap.size w).alloc (Nat.le_refl _) (.cells #[] 5)
 have HBx := Lib.hid hbx
 have hr1 : n ≤ 9223372036854775807 := hn.2
 have hr2 : -9223372036854775808 ≤ n := hn.1
 clear hL hn hbx
 obtain ⟨u,hu⟩ : ∃ u,zz n = u := ⟨_,rfl⟩
 have HUl : Hid (u < 18446744073709551616) := Lib.hid (hu ▸ zz_lt HF.out)
 by_cases hneg : n < 0
 ·
  have hfold := ref_fold_neg n HF.out hneg
  rw [hu] at hfold ⊢
  have hsr : n / 9223372036854775808 = -1 := by omega
  rw [show (18446744073709551615 : Int) = IntKind.u64.wrap (-1) by decide] at hfold
  clear hu
  go_enter Try.func32,Try.ntmps32
  go_wp2_with (at_builtin; go_must (refine By.wpList_append _ rfl (.tmp 7) (.tmp 8) rfl w.heap.size (.slice (some ⟨w.heap.size,0,none⟩) 0 0) [] rfl (By.own_empty (Nat.le_refl _) (heap_alloc_new w _)) ao m cap bs rfl HLen.out HL.out.nil ((HL.out.below HBx.out).seg) (by simp only [List.length_nil]; omega) (by simp) ?_))
  intro v1 y1 o1 gr1 _
  have HO1 := Lib.hid o1
  have HB1 := Lib.hid (HBx.out.grown gr1 HBx.out.size (fun k hk => by cases hk; exact Nat.le_refl _))
  clear o1 gr1
  go_wp2
  clear hfold hneg
  go_loopw [5,6] (fun ov x wr => ∃ (i v : Nat) (sv : Value) (pre : List UInt8),sv = ov ∧ x = .int .u64 (v : Int) ∧ i ≤ 9 ∧ Hid (v < 18446744073709551616 ∧ v < lim (i + 1)) ∧ Hid (pre.length = i) ∧ Hid (vb u = pre ++ vbF (10 - i) v) ∧ Hid (By.Own wr w.heap.size sv (bs ++ pre)) ∧ Hid (Below w.heap.size w wr)) (fun _ x _ => (intOf x).toNat)
  case atStart => exact ⟨0,u,v1,[],rfl,rfl,by omega,Lib.hid ⟨HUl.out,by rw [lim_one]; exact HUl.out⟩,Lib.hid rfl,Lib.hid rfl,Lib.hid (by simpa using HO1.out),HB1⟩
  case round =>
   obtain ⟨i,v,sv,pre,rfl,rfl,hi,HV,HPl,HVb,HO,HB⟩ := hrel
   have hsw := HB.out.size
   have HOa : Hid (∀ o,By.Own (wr.alloc o) w.heap.size sv (bs ++ pre)) := fun o => By.own_alloc HO.out o
   have HLl : Hid ((bs ++ pre).length ≤ 1000000000010) := Lib.hid (by rw [List.length_append,← HLen.out,HPl.out]; omega)
   by_cases hs : v < 128
   ·
    have hw8 : IntKind.u8.wrap (v : Int) = (v : Int) := by
     rw [IntKind.wrap_u8]
     omega
    have HE : Hid (vb u = pre ++ [UInt8.ofNat v]) := Lib.hid (by rw [HVb.out,show 10 - i = (9 - i) + 1 by omega,vbF_low hs])
    have a1 : ¬ (128 : Int) ≤ (v : Int) := by omega
    go_wp2_with (at_builtin; go_must (refine By.wpList_append _ rfl (.tmp 28) (.tmp 31) rfl w.heap.size sv (bs ++ pre) rfl (HOa.out _) (some ⟨wr.heap.size,0,none⟩) 1 1 [UInt8.ofNat v] rfl rfl (fun h => by cases h) (By.seg_one (heap_alloc_new wr _) (by unfold By.bv; rw [byte_nat (by omega)])) (by have := HLl.out; omega) (by simp; omega) ?_))
    intro v2 y2 o2 gr2 _
    have hbx := (Below.refl wr.heap.size wr).alloc (Nat.le_refl _) (.cells #[.int .u8 (v : Int)] 5)
    have HB2 := Lib.hid ((bchain HB.out hbx).grown gr2 (bchain HB.out hbx).size (By.own_ge HO.out))
    have HO2 := Lib.hid o2
    clear o2 gr2 hbx
    go_wp2
    go_ret
    refine ⟨⟨v2,rfl,?_⟩,HB2.out⟩
    rw [HE.out]
    exact HO2.out
   ·
    obtain ⟨r,hr⟩ : ∃ r,v % 128 = r := ⟨_,rfl⟩
    obtain ⟨q,hq⟩ : ∃ q,v / 128 = q := ⟨_,rfl⟩
    have hr128 : r < 128 := by omega
    have hand := and127 v HV.out.1
    rw [hr] at hand
    have hw8 : IntKind.u8.wrap (r : Int) = (r : Int) := by
     rw [IntKind.wrap_u8]
     omega
    have hor : bits .or .u8 (r : Int) 128 = (r : Int) + 128 := u8_or128_right _ (by omega) (by omega)
    have hdiv : (v : Int) / 128 = (q : Int) := by omega
    have hi9 : i < 9 := by
     by_cases h9 : i < 9
     · exact h9
     ·
      have := HV.out.2
      rw [show i + 1 = 10 by omega,lim_ten] at this
      omega
    have HV2 : Hid (q < 18446744073709551616 ∧ q < lim (i + 1 + 1)) := Lib.hid (by
     have h1 := HV.out.1
     have h2 := HV.out.2
     rw [lim_step (by omega)] at h2
     omega)
    have HVb2 : Hid (vb u = (pre ++ [UInt8.ofNat (r + 128)]) ++ vbF (10 - (i + 1)) q) := Lib.hid (by
     rw [HVb.out,show 10 - i = (10 - (i + 1)) + 1 by omega,vbF_high hs,hr,hq,List.append_assoc]
     rfl)
    have hqv : q < v := by omega
    obtain ⟨x,hx⟩ : ∃ x,UInt8.ofNat (r + 128) = x := ⟨_,rfl⟩
    have HX : Hid (By.bv x = .int .u8 ((r : Int) + 128)) := Lib.hid (by unfold By.bv; rw [← hx,byte_nat (by omega)]; simp)
    rw [hx] at HVb2
    clear hx
    have a1 : (128 : Int) ≤ (v : Int) := by omega
    clear hr hq
    go_wp2_with (at_builtin; go_must (refine By.wpList_append _ rfl (.tmp 19) (.tmp 24) rfl w.heap.size sv (bs ++ pre) rfl (HOa.out _) (some ⟨wr.heap.size,0,none⟩) 1 1 [x] rfl rfl (fun h => by cases h) (By.seg_one (heap_alloc_new wr _) HX.out) (by have := HLl.out; omega) (by simp; omega) ?_))
    intro v2 y2 o2 gr2 _
    have hbx := (Below.refl wr.heap.size wr).alloc (Nat.le_refl _) (.cells #[.int .u8 ((r : Int) + 128)] 5)
    have HB2 := Lib.hid ((bchain HB.out hbx).grown gr2 (bchain HB.out hbx).size (By.own_ge HO.out))
    have HO2 := Lib.hid o2
    clear o2 gr2 hbx
    go_wp2
    go_roundw
    case rel => exact ⟨i + 1,q,v2,pre ++ [x],rfl,rfl,by omega,HV2,Lib.hid (by rw [List.length_append,HPl.out]; rfl),HVb2,HO2,HB2⟩
    case measure => simp [intOf]; omega
 ·
  have hz : (zz n : Int) = n * 2 := by
   unfold zz
   rw [if_neg hneg]
   omega
  have hfold := ref_fold_pos (n * 2) (by omega) (by omega)
  rw [← hz,hu] at hfold
  rw [hu] at hz ⊢
  have hm2 : n * 2 = (u : Int) := hz.symm
  have hsr : n / 9223372036854775808 = 0 := by omega
  clear hu hz
  go_enter Try.func32,Try.ntmps32
  go_wp2_with (at_builtin; go_must (refine By.wpList_append _ rfl (.tmp 7) (.tmp 8) rfl w.heap.size (.slice (some ⟨w.heap.size,0,none⟩) 0 0) [] rfl (By.own_empty (Nat.le_refl _) (heap_alloc_new w _)) ao m cap bs rfl HLen.out HL.out.nil ((HL.out.below HBx.out).seg) (by simp only [List.length_nil]; omega) (by simp) ?_))
  intro v1 y1 o1 gr1 _
  have HO1 := Lib.hid o1
  have HB1 := Lib.hid (HBx.out.grown gr1 HBx.out.size (fun k hk => by cases hk; exact Nat.le_refl _))
  clear o1 gr1
  go_wp2
  clear hfold hneg
  go_loopw [5,6] (fun ov x wr => ∃ (i v : Nat) (sv : Value) (pre : List UInt8),sv = ov ∧ x = .int .u64 (v : Int) ∧ i ≤ 9 ∧ Hid (v < 18446744073709551616 ∧ v < lim (i + 1)) ∧ Hid (pre.length = i) ∧ Hid (vb u = pre ++ vbF (10 - i) v) ∧ Hid (By.Own wr w.heap.size sv (bs ++ pre)) ∧ Hid (Below w.heap.size w wr)) (fun _ x _ => (intOf x).toNat)
  case atStart => exact ⟨0,u,v1,[],rfl,rfl,by omega,Lib.hid ⟨HUl.out,by rw [lim_one]; exact HUl.out⟩,Lib.hid rfl,Lib.hid rfl,Lib.hid (by simpa using HO1.out),HB1⟩
  case round =>
   obtain ⟨i,v,sv,pre,rfl,rfl,hi,HV,HPl,HVb,HO,HB⟩ := hrel
   have hsw := HB.out.size
   have HOa : Hid (∀ o,By.Own (wr.alloc o) w.heap.size sv (bs ++ pre)) := fun o => By.own_alloc HO.out o
   have HLl : Hid ((bs ++ pre).length ≤ 1000000000010) := Lib.hid (by rw [List.length_append,← HLen.out,HPl.out]; omega)
   by_cases hs : v < 128
   ·
    have hw8 : IntKind.u8.wrap (v : Int) = (v : Int) := by
     rw [IntKind.wrap_u8]
     omega
    have HE : Hid (vb u = pre ++ [UInt8.ofNat v]) := Lib.hid (by rw [HVb.out,show 10 - i = (9 - i) + 1 by omega,vbF_low hs])
    have a1 : ¬ (128 : Int) ≤ (v : Int) := by omega
    go_wp2_with (at_builtin; go_must (refine By.wpList_append _ rfl (.tmp 28) (.tmp 31) rfl w.heap.size sv (bs ++ pre) rfl (HOa.out _) (some ⟨wr.heap.size,0,none⟩) 1 1 [UInt8.ofNat v] rfl rfl (fun h => by cases h) (By.seg_one (heap_alloc_new wr _) (by unfold By.bv; rw [byte_nat (by omega)])) (by have := HLl.out; omega) (by simp; omega) ?_))
    intro v2 y2 o2 gr2 _
    have hbx := (Below.refl wr.heap.size wr).alloc (Nat.le_refl _) (.cells #[.int .u8 (v : Int)] 5)
    have HB2 := Lib.hid ((bchain HB.out hbx).grown gr2 (bchain HB.out hbx).size (By.own_ge HO.out))
    have HO2 := Lib.hid o2
    clear o2 gr2 hbx
    go_wp2
    go_ret
    refine ⟨⟨v2,rfl,?_⟩,HB2.out⟩
    rw [HE.out]
    exact HO2.out
   ·
    obtain ⟨r,hr⟩ : ∃ r,v % 128 = r := ⟨_,rfl⟩
    obtain ⟨q,hq⟩ : ∃ q,v / 128 = q := ⟨_,rfl⟩
    have hr128 : r < 128 := by omega
    have hand := and127 v HV.out.1
    rw [hr] at hand
    have hw8 : IntKind.u8.wrap (r : Int) = (r : Int) := by
     rw [IntKind.wrap_u8]
     omega
    have hor : bits .or .u8 (r : Int) 128 = (r : Int) + 128 := u8_or128_right _ (by omega) (by omega)
    have hdiv : (v : Int) / 128 = (q : Int) := by omega
    have hi9 : i < 9 := by
     by_cases h9 : i < 9
     · exact h9
     ·
      have := HV.out.2
      rw [show i + 1 = 10 by omega,lim_ten] at this
      omega
    have HV2 : Hid (q < 18446744073709551616 ∧ q < lim (i + 1 + 1)) := Lib.hid (by
     have h1 := HV.out.1
     have h2 := HV.out.2
     rw [lim_step (by omega)] at h2
     omega)
    have HVb2 : Hid (vb u = (pre ++ [UInt8.ofNat (r + 128)]) ++ vbF (10 - (i + 1)) q) := Lib.hid (by
     rw [HVb.out,show 10 - i = (10 - (i + 1)) + 1 by omega,vbF_high hs,hr,hq,List.append_assoc]
     rfl)
    have hqv : q < v := by omega
    obtain ⟨x,hx⟩ : ∃ x,UInt8.ofNat (r + 128) = x := ⟨_,rfl⟩
    have HX : Hid (By.bv x = .int .u8 ((r : Int) + 128)) := Lib.hid (by unfold By.bv; rw [← hx,byte_nat (by omega)]; simp)
    rw [hx] at HVb2
    clear hx
    have a1 : (128 : Int) ≤ (v : Int) := by omega
    clear hr hq
    go_wp2_with (at_builtin; go_must (refine By.wpList_append _ rfl (.tmp 19) (.tmp 24) rfl w.heap.size sv (bs ++ pre) rfl (HOa.out _) (some ⟨wr.heap.size,0,none⟩) 1 1 [x] rfl rfl (fun h => by cases h) (By.seg_one (heap_alloc_new wr _) HX.out) (by have := HLl.out; omega) (by simp; omega) ?_))
    intro v2 y2 o2 gr2 _
    have hbx := (Below.refl wr.heap.size wr).alloc (Nat.le_refl _) (.cells #[.int .u8 ((r : Int) + 128)] 5)
    have HB2 := Lib.hid ((bchain HB.out hbx).grown gr2 (bchain HB.out hbx).size (By.own_ge HO.out))
    have HO2 := Lib.hid o2
    clear o2 gr2 hbx
    go_wp2
    go_roundw
    case rel => exact ⟨i + 1,q,v2,pre ++ [x],rfl,rfl,by omega,HV2,Lib.hid (by rw [List.length_append,HPl.out]; rfl),HVb2,HO2,HB2⟩
    case measure => simp [intOf]; omega
end Go.Proofs.Ytagjbjppddbalaa
