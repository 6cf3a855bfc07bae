/- THE DOCUMENT's OWN ANSWER: impostref1's Reader: Num. (By genrefrd.py.) -/
import Derived.Test.YtagjbjppddbalaaZLt1
import Derived.Test.YtagjbjppddbalaaYLtRefPk
namespace Go.Proofs.Ytagjbjppddbalaa
open Go.RowKit
open Go.Sort (grow)
open Mem Pk
theorem i64_not_right (q : Nat) (h : q < 9223372036854775808) : bits .xor .i64 (q : Int) (-1) = -(q : Int) - 1 := by
 rw [← Lib.i64_not q h]
 show IntKind.i64.wrap ((BitVec.ofInt 64 (q : Int) ^^^ BitVec.ofInt 64 (-1)).toNat : Int) = IntKind.i64.wrap ((BitVec.ofInt 64 (-1) ^^^ BitVec.ofInt 64 (q : Int)).toNat : Int)
 rw [BitVec.xor_comm]
theorem i64_same (q : Nat) (h : q < 9223372036854775808) : bits .xor .i64 (q : Int) 0 = (q : Int) := by
 show IntKind.i64.wrap ((BitVec.ofInt 64 (q : Int) ^^^ BitVec.ofInt 64 0).toNat : Int) = _
 have h2 : (BitVec.ofInt 64 (q : Int)).toNat = q := by
  rw [BitVec.ofInt_natCast,BitVec.toNat_ofNat]
  exact Nat.mod_eq_of_lt (by omega)
 have h3 : (BitVec.ofInt 64 0).toNat = 0 := by decide
 rw [BitVec.toNat_xor,h2,h3,Nat.xor_zero,IntKind.wrap_i64]
 omega
theorem Rd.cells {w : World} {p : Nat} {ao : Option Addr} {n cap : Nat} {bs : List UInt8} {s : St} (h : Rd w p ao n cap bs s) : (∀ d os,(grow (redrawn w d) os).cell? ⟨p,0,none⟩ = some (.slice ao n cap)) ∧ (∀ d os,(grow (redrawn w d) os).cell? ⟨p,1,none⟩ = some (.int .i64 (s.at' : Int))) :=
 ⟨cell_regrown h.c0,cell_regrown h.c1⟩
set_option maxRecDepth 20000 in
set_option maxHeartbeats 8000000 in
theorem ref_rd_num (p : Nat) (ao : Option Addr) (n cap : Nat) (bs : List UInt8) (s : St) (w : World) (hR : Rd w p ao n cap bs s) :
  Calls Try.prog 40 #[.pointer (some ⟨p,0,none⟩)] w fun e w' => e = .returned (.int .i64 (rNum bs s).1) ∧ Rd w' p ao n cap bs (rNum bs s).2 ∧ Upd w p w' := by
 have HR := Lib.hid hR
 obtain ⟨a,er⟩ := s
 have c2 := hR.c2
 have hpl := hR.place
 dsimp only at c2 hpl
 have hcap := hR.ls.reach
 have hfit := hR.ls.fits
 have HLen := Lib.hid hR.ls.len
 clear hR
 by_cases he : er = 0
 ·
  subst he
  go_enter Try.func40,Try.ntmps40
  go_wp2
  clear c2
  go_loopw [3,4,5] (fun x i _ wr => ∃ (k u : Nat),x = .int .u64 (u : Int) ∧ i = .int .i64 (k : Int) ∧ k ≤ 9 ∧ a + k ≤ n ∧ Hid (u < pw k) ∧ Hid (rd k u (bs.drop (a + k)) = num (bs.drop a)) ∧ Hid (Below w.heap.size w wr)) (fun _ i _ _ => n - a - (intOf i).toNat)
  case atStart => exact ⟨0,0,rfl,rfl,by omega,by omega,Lib.hid (by decide),Lib.hid rfl,Lib.hid (Below.refl _ _)⟩
  case round =>
   obtain ⟨k,u,rfl,rfl,hk9,hkn,HU,HN,HB⟩ := hrel
   obtain ⟨k0,k1⟩ := (HR.out.below HB.out).cells
   dsimp only at k1
   by_cases hlt : a + k < n
   ·
    have hkl : a + k < bs.length := HLen.out ▸ hlt
    obtain ⟨b,off,rfl⟩ := HR.out.ls.at (by omega)
    have hc := (HR.out.below HB.out).ls.row (a + k) hkl
    obtain ⟨x,hx⟩ : ∃ x,bs[a + k] = x := ⟨_,rfl⟩
    have HDr : Hid (bs.drop (a + k) = x :: bs.drop (a + (k + 1))) := Lib.hid (by rw [List.drop_eq_getElem_cons hkl,hx]; rfl)
    rw [hx] at hc
    have hx256 : x.toNat ≤ 255 := by
     have := UInt8.toNat_lt x
     omega
    obtain ⟨c,hcx⟩ : ∃ c,x.toNat = c := ⟨_,rfl⟩
    unfold By.bv at hc
    rw [hcx] at hc hx256
    have HCx := Lib.hid hcx
    have hc' := cell_regrown hc
    have hand := u8_and127 (c : Int) (by omega) (by omega)
    obtain ⟨r,hr⟩ : ∃ r,c % 128 = r := ⟨_,rfl⟩
    have hr128 : r ≤ 127 := by omega
    rw [show (c : Int) % 128 = (r : Int) by omega] at hand
    have HRc := Lib.hid hr
    clear hx hkl hcx hr hc
    go_wp2
    refine wp_region_quiet_below (by kernel_rfl) (by kernel_rfl) ?_
    repeat (first | go_big_quiet_step (fail) | quiet_step (fail))
    refine wpQuiet_nil ?_
    intro _ hw'
    obtain ⟨⟨dq,osq⟩,hw''⟩ := hw'
    subst hw''
    have bq := below_regrown wr dq osq
    have HBq := Lib.hid (bchain HB.out bq)
    have hcq := hc' dq osq
    clear k0 k1 bq hc'
    generalize grow (redrawn wr dq) osq = y at *
    obtain ⟨k0,k1⟩ := (HR.out.below HBq.out).cells
    dsimp only at k1
    have hc' := cell_regrown hcq
    clear hcq
    go_wp2
    refine wp_region_quiet_below (by kernel_rfl) (by kernel_rfl) ?_
    repeat (first | go_big_quiet_step (fail) | quiet_step (fail))
    refine wpQuiet_nil ?_
    intro _ hw'
    obtain ⟨⟨dz,osz⟩,hw''⟩ := hw'
    subst hw''
    have bz := below_regrown y dz osz
    have HBz := Lib.hid (bchain HBq.out bz)
    clear k0 k1 bz hc'
    generalize grow (redrawn y dz) osz = z at *
    have HRz := Lib.hid (HR.out.below HBz.out)
    have HUz := Lib.hid (Upd.of p HBz.out)
    have d1 := HRz.out.c1
    have d2 := HRz.out.c2
    have df := HRz.out.fz
    dsimp only at d1 d2
    rcases (by omega : k = 0 ∨ k = 1 ∨ k = 2 ∨ k = 3 ∨ k = 4 ∨ k = 5 ∨ k = 6 ∨ k = 7 ∨ k = 8 ∨ k = 9) with rfl | rfl | rfl | rfl | rfl | rfl | rfl | rfl | rfl | rfl
    ·
     have hub : u < 1 := HU.out
     obtain ⟨S,hS⟩ : ∃ S,u + r * 1 = S := ⟨_,rfl⟩
     have HSm := Lib.hid hS
     have HUb := Lib.hid hub
     have hSb : S < 128 := by omega
     have HSb := Lib.hid hSb
     have hor : bits .or .u64 (u : Int) ((r : Int)) = (S : Int) := by
      rw [u64_orv0 _ _ (by omega) (by omega) (by omega) (by omega) (by omega)]
      omega
     by_cases hm : 128 ≤ c
     ·
      have HNx : Hid (rd 1 S (bs.drop (a + 1)) = num (bs.drop a)) := Lib.hid (by
       have h := HN.out
       rw [HDr.out,rd_more (by omega) (by rw [HCx.out]; exact hm),HCx.out,HRc.out] at h
       rw [← HSm.out]
       exact h)
      have HPw : Hid (S < pw 1) := Lib.hid (by
       rw [show pw 1 = 128 by decide]
       exact HSb.out)
      have a1 : ¬ (c : Int) < 128 := by omega
      clear hub hS hSb
      go_wp2
      go_roundw
      case rel => exact ⟨1,S,rfl,rfl,by omega,by omega,HPw,HNx,HBz⟩
      case measure => simp [intOf]; omega
     have hrc : r = c := by
      have := HRc.out
      omega
     have a2 : (c : Int) < 128 := by omega
     by_cases hc0 : c = 0
     ·
      have q0 : ((c : Int) == 0) = true := beq_iff_eq.2 (by omega)
      have HE : Hid (num (bs.drop a) = .inr (S,1)) := Lib.hid (by
       rw [← HN.out,HDr.out,rd_last (by rw [HCx.out]; omega) (by rw [HCx.out]; omega) (by rw [HCx.out]; omega),HCx.out,← HSm.out,hrc])
      have hS64 : S < 18446744073709551616 := (Nat.lt_of_lt_of_le HSb.out (by omega))
      obtain ⟨h2,hh2⟩ : ∃ h2,S / 2 = h2 := ⟨_,rfl⟩
      have hdiv : (S : Int) / 2 = (h2 : Int) := by omega
      have hh2b : h2 ≤ 9223372036854775807 := by omega
      have hand1 := Lib.u64_and1 (S : Int) (by omega) (by omega)
      have HHf := Lib.hid hh2
      have e64 : (a : Int) + 0 + 1 = ((a + 1 : Nat) : Int) := by omega
      have HS64 := Lib.hid hS64
      clear hub hS hSb hrc hc0 hS64 hh2
      by_cases ho : S % 2 = 1
      ·
       have HZ : Hid (uz S = -(h2 : Int) - 1) := Lib.hid (by unfold uz; rw [if_pos ho,HHf.out])
       rw [show (S : Int) % 2 = 1 by omega] at hand1
       have hx := i64_not_right h2 (by omega)
       clear ho
       go_wp2
       go_ret
       refine ⟨by rw [rNum_ok rfl HE.out,HZ.out]; rfl,?_,HUz.out.trans (Upd.set _)⟩
       rw [rNum_ok rfl HE.out]
       have hat := HRz.out.at (a + 1) (by omega)
       rw [← e64] at hat
       exact hat
      ·
       have HZ : Hid (uz S = (h2 : Int)) := Lib.hid (by unfold uz; rw [if_neg ho,HHf.out])
       rw [show (S : Int) % 2 = 0 by omega] at hand1
       have hx := i64_same h2 (by omega)
       clear ho
       go_wp2
       go_ret
       refine ⟨by rw [rNum_ok rfl HE.out,HZ.out]; rfl,?_,HUz.out.trans (Upd.set _)⟩
       rw [rNum_ok rfl HE.out]
       have hat := HRz.out.at (a + 1) (by omega)
       rw [← e64] at hat
       exact hat
     have q0 : ((c : Int) == 0) = false := beq_eq_false_iff_ne.2 (by omega)
     have HE : Hid (num (bs.drop a) = .inr (S,1)) := Lib.hid (by
      rw [← HN.out,HDr.out,rd_last (by rw [HCx.out]; omega) (by rw [HCx.out]; omega) (by rw [HCx.out]; omega),HCx.out,← HSm.out,hrc])
     have hS64 : S < 18446744073709551616 := (Nat.lt_of_lt_of_le HSb.out (by omega))
     obtain ⟨h2,hh2⟩ : ∃ h2,S / 2 = h2 := ⟨_,rfl⟩
     have hdiv : (S : Int) / 2 = (h2 : Int) := by omega
     have hh2b : h2 ≤ 9223372036854775807 := by omega
     have hand1 := Lib.u64_and1 (S : Int) (by omega) (by omega)
     have HHf := Lib.hid hh2
     have e64 : (a : Int) + 0 + 1 = ((a + 1 : Nat) : Int) := by omega
     have HS64 := Lib.hid hS64
     clear hub hS hSb hrc hc0 hS64 hh2
     by_cases ho : S % 2 = 1
     ·
      have HZ : Hid (uz S = -(h2 : Int) - 1) := Lib.hid (by unfold uz; rw [if_pos ho,HHf.out])
      rw [show (S : Int) % 2 = 1 by omega] at hand1
      have hx := i64_not_right h2 (by omega)
      clear ho
      go_wp2
      go_ret
      refine ⟨by rw [rNum_ok rfl HE.out,HZ.out]; rfl,?_,HUz.out.trans (Upd.set _)⟩
      rw [rNum_ok rfl HE.out]
      have hat := HRz.out.at (a + 1) (by omega)
      rw [← e64] at hat
      exact hat
     ·
      have HZ : Hid (uz S = (h2 : Int)) := Lib.hid (by unfold uz; rw [if_neg ho,HHf.out])
      rw [show (S : Int) % 2 = 0 by omega] at hand1
      have hx := i64_same h2 (by omega)
      clear ho
      go_wp2
      go_ret
      refine ⟨by rw [rNum_ok rfl HE.out,HZ.out]; rfl,?_,HUz.out.trans (Upd.set _)⟩
      rw [rNum_ok rfl HE.out]
      have hat := HRz.out.at (a + 1) (by omega)
      rw [← e64] at hat
      exact hat
    ·
     have hub : u < 128 := HU.out
     obtain ⟨S,hS⟩ : ∃ S,u + r * 128 = S := ⟨_,rfl⟩
     have HSm := Lib.hid hS
     have HUb := Lib.hid hub
     have hSb : S < 16384 := by omega
     have HSb := Lib.hid hSb
     have hor : bits .or .u64 (u : Int) ((r : Int) * 128) = (S : Int) := by
      rw [u64_orv7 _ _ (by omega) (by omega) (by omega) (by omega) (by omega)]
      omega
     by_cases hm : 128 ≤ c
     ·
      have HNx : Hid (rd 2 S (bs.drop (a + 2)) = num (bs.drop a)) := Lib.hid (by
       have h := HN.out
       rw [HDr.out,rd_more (by omega) (by rw [HCx.out]; exact hm),HCx.out,HRc.out] at h
       rw [← HSm.out]
       exact h)
      have HPw : Hid (S < pw 2) := Lib.hid (by
       rw [show pw 2 = 16384 by decide]
       exact HSb.out)
      have a1 : ¬ (c : Int) < 128 := by omega
      clear hub hS hSb
      go_wp2
      go_roundw
      case rel => exact ⟨2,S,rfl,rfl,by omega,by omega,HPw,HNx,HBz⟩
      case measure => simp [intOf]; omega
     have hrc : r = c := by
      have := HRc.out
      omega
     have a2 : (c : Int) < 128 := by omega
     by_cases hc0 : c = 0
     ·
      have HE : Hid (num (bs.drop a) = .inl 4) := Lib.hid (by
       rw [← HN.out,HDr.out,rd_zero (by rw [HCx.out]; exact hc0) (by omega)])
      have q0 : ((c : Int) == 0) = true := beq_iff_eq.2 (by omega)
      clear hc0 hrc hSb
      clear hub hS
      go_wp2
      go_ret
      refine ⟨by rw [rNum_bad rfl HE.out]; rfl,?_,HUz.out.trans (Upd.set _)⟩
      rw [rNum_bad rfl HE.out]
      exact HRz.out.wrong 4
     have q0 : ((c : Int) == 0) = false := beq_eq_false_iff_ne.2 (by omega)
     have HE : Hid (num (bs.drop a) = .inr (S,2)) := Lib.hid (by
      rw [← HN.out,HDr.out,rd_last (by rw [HCx.out]; omega) (by rw [HCx.out]; omega) (by rw [HCx.out]; omega),HCx.out,← HSm.out,hrc])
     have hS64 : S < 18446744073709551616 := (Nat.lt_of_lt_of_le HSb.out (by omega))
     obtain ⟨h2,hh2⟩ : ∃ h2,S / 2 = h2 := ⟨_,rfl⟩
     have hdiv : (S : Int) / 2 = (h2 : Int) := by omega
     have hh2b : h2 ≤ 9223372036854775807 := by omega
     have hand1 := Lib.u64_and1 (S : Int) (by omega) (by omega)
     have HHf := Lib.hid hh2
     have e64 : (a : Int) + 1 + 1 = ((a + 2 : Nat) : Int) := by omega
     have HS64 := Lib.hid hS64
     clear hub hS hSb hrc hc0 hS64 hh2
     by_cases ho : S % 2 = 1
     ·
      have HZ : Hid (uz S = -(h2 : Int) - 1) := Lib.hid (by unfold uz; rw [if_pos ho,HHf.out])
      rw [show (S : Int) % 2 = 1 by omega] at hand1
      have hx := i64_not_right h2 (by omega)
      clear ho
      go_wp2
      go_ret
      refine ⟨by rw [rNum_ok rfl HE.out,HZ.out]; rfl,?_,HUz.out.trans (Upd.set _)⟩
      rw [rNum_ok rfl HE.out]
      have hat := HRz.out.at (a + 2) (by omega)
      rw [← e64] at hat
      exact hat
     ·
      have HZ : Hid (uz S = (h2 : Int)) := Lib.hid (by unfold uz; rw [if_neg ho,HHf.out])
      rw [show (S : Int) % 2 = 0 by omega] at hand1
      have hx := i64_same h2 (by omega)
      clear ho
      go_wp2
      go_ret
      refine ⟨by rw [rNum_ok rfl HE.out,HZ.out]; rfl,?_,HUz.out.trans (Upd.set _)⟩
      rw [rNum_ok rfl HE.out]
      have hat := HRz.out.at (a + 2) (by omega)
      rw [← e64] at hat
      exact hat
    ·
     have hub : u < 16384 := HU.out
     obtain ⟨S,hS⟩ : ∃ S,u + r * 16384 = S := ⟨_,rfl⟩
     have HSm := Lib.hid hS
     have HUb := Lib.hid hub
     have hSb : S < 2097152 := by omega
     have HSb := Lib.hid hSb
     have hor : bits .or .u64 (u : Int) ((r : Int) * 16384) = (S : Int) := by
      rw [u64_orv14 _ _ (by omega) (by omega) (by omega) (by omega) (by omega)]
      omega
     by_cases hm : 128 ≤ c
     ·
      have HNx : Hid (rd 3 S (bs.drop (a + 3)) = num (bs.drop a)) := Lib.hid (by
       have h := HN.out
       rw [HDr.out,rd_more (by omega) (by rw [HCx.out]; exact hm),HCx.out,HRc.out] at h
       rw [← HSm.out]
       exact h)
      have HPw : Hid (S < pw 3) := Lib.hid (by
       rw [show pw 3 = 2097152 by decide]
       exact HSb.out)
      have a1 : ¬ (c : Int) < 128 := by omega
      clear hub hS hSb
      go_wp2
      go_roundw
      case rel => exact ⟨3,S,rfl,rfl,by omega,by omega,HPw,HNx,HBz⟩
      case measure => simp [intOf]; omega
     have hrc : r = c := by
      have := HRc.out
      omega
     have a2 : (c : Int) < 128 := by omega
     by_cases hc0 : c = 0
     ·
      have HE : Hid (num (bs.drop a) = .inl 4) := Lib.hid (by
       rw [← HN.out,HDr.out,rd_zero (by rw [HCx.out]; exact hc0) (by omega)])
      have q0 : ((c : Int) == 0) = true := beq_iff_eq.2 (by omega)
      clear hc0 hrc hSb
      clear hub hS
      go_wp2
      go_ret
      refine ⟨by rw [rNum_bad rfl HE.out]; rfl,?_,HUz.out.trans (Upd.set _)⟩
      rw [rNum_bad rfl HE.out]
      exact HRz.out.wrong 4
     have q0 : ((c : Int) == 0) = false := beq_eq_false_iff_ne.2 (by omega)
     have HE : Hid (num (bs.drop a) = .inr (S,3)) := Lib.hid (by
      rw [← HN.out,HDr.out,rd_last (by rw [HCx.out]; omega) (by rw [HCx.out]; omega) (by rw [HCx.out]; omega),HCx.out,← HSm.out,hrc])
     have hS64 : S < 18446744073709551616 := (Nat.lt_of_lt_of_le HSb.out (by omega))
     obtain ⟨h2,hh2⟩ : ∃ h2,S / 2 = h2 := ⟨_,rfl⟩
     have hdiv : (S : Int) / 2 = (h2 : Int) := by omega
     have hh2b : h2 ≤ 9223372036854775807 := by omega
     have hand1 := Lib.u64_and1 (S : Int) (by omega) (by omega)
     have HHf := Lib.hid hh2
     have e64 : (a : Int) + 2 + 1 = ((a + 3 : Nat) : Int) := by omega
     have HS64 := Lib.hid hS64
     clear hub hS hSb hrc hc0 hS64 hh2
     by_cases ho : S % 2 = 1
     ·
      have HZ : Hid (uz S = -(h2 : Int) - 1) := Lib.hid (by unfold uz; rw [if_pos ho,HHf.out])
      rw [show (S : Int) % 2 = 1 by omega] at hand1
      have hx := i64_not_right h2 (by omega)
      clear ho
      go_wp2
      go_ret
      refine ⟨by rw [rNum_ok rfl HE.out,HZ.out]; rfl,?_,HUz.out.trans (Upd.set _)⟩
      rw [rNum_ok rfl HE.out]
      have hat := HRz.out.at (a + 3) (by omega)
      rw [← e64] at hat
      exact hat
     ·
      have HZ : Hid (uz S = (h2 : Int)) := Lib.hid (by unfold uz; rw [if_neg ho,HHf.out])
      rw [show (S : Int) % 2 = 0 by omega] at hand1
      have hx := i64_same h2 (by omega)
      clear ho
      go_wp2
      go_ret
      refine ⟨by rw [rNum_ok rfl HE.out,HZ.out]; rfl,?_,HUz.out.trans (Upd.set _)⟩
      rw [rNum_ok rfl HE.out]
      have hat := HRz.out.at (a + 3) (by omega)
      rw [← e64] at hat
      exact hat
    ·
     have hub : u < 2097152 := HU.out
     obtain ⟨S,hS⟩ : ∃ S,u + r * 2097152 = S := ⟨_,rfl⟩
     have HSm := Lib.hid hS
     have HUb := Lib.hid hub
     have hSb : S < 268435456 := by omega
     have HSb := Lib.hid hSb
     have hor : bits .or .u64 (u : Int) ((r : Int) * 2097152) = (S : Int) := by
      rw [u64_orv21 _ _ (by omega) (by omega) (by omega) (by omega) (by omega)]
      omega
     by_cases hm : 128 ≤ c
     ·
      have HNx : Hid (rd 4 S (bs.drop (a + 4)) = num (bs.drop a)) := Lib.hid (by
       have h := HN.out
       rw [HDr.out,rd_more (by omega) (by rw [HCx.out]; exact hm),HCx.out,HRc.out] at h
       rw [← HSm.out]
       exact h)
      have HPw : Hid (S < pw 4) := Lib.hid (by
       rw [show pw 4 = 268435456 by decide]
       exact HSb.out)
      have a1 : ¬ (c : Int) < 128 := by omega
      clear hub hS hSb
      go_wp2
      go_roundw
      case rel => exact ⟨4,S,rfl,rfl,by omega,by omega,HPw,HNx,HBz⟩
      case measure => simp [intOf]; omega
     have hrc : r = c := by
      have := HRc.out
      omega
     have a2 : (c : Int) < 128 := by omega
     by_cases hc0 : c = 0
     ·
      have HE : Hid (num (bs.drop a) = .inl 4) := Lib.hid (by
       rw [← HN.out,HDr.out,rd_zero (by rw [HCx.out]; exact hc0) (by omega)])
      have q0 : ((c : Int) == 0) = true := beq_iff_eq.2 (by omega)
      clear hc0 hrc hSb
      clear hub hS
      go_wp2
      go_ret
      refine ⟨by rw [rNum_bad rfl HE.out]; rfl,?_,HUz.out.trans (Upd.set _)⟩
      rw [rNum_bad rfl HE.out]
      exact HRz.out.wrong 4
     have q0 : ((c : Int) == 0) = false := beq_eq_false_iff_ne.2 (by omega)
     have HE : Hid (num (bs.drop a) = .inr (S,4)) := Lib.hid (by
      rw [← HN.out,HDr.out,rd_last (by rw [HCx.out]; omega) (by rw [HCx.out]; omega) (by rw [HCx.out]; omega),HCx.out,← HSm.out,hrc])
     have hS64 : S < 18446744073709551616 := (Nat.lt_of_lt_of_le HSb.out (by omega))
     obtain ⟨h2,hh2⟩ : ∃ h2,S / 2 = h2 := ⟨_,rfl⟩
     have hdiv : (S : Int) / 2 = (h2 : Int) := by omega
     have hh2b : h2 ≤ 9223372036854775807 := by omega
     have hand1 := Lib.u64_and1 (S : Int) (by omega) (by omega)
     have HHf := Lib.hid hh2
     have e64 : (a : Int) + 3 + 1 = ((a + 4 : Nat) : Int) := by omega
     have HS64 := Lib.hid hS64
     clear hub hS hSb hrc hc0 hS64 hh2
     by_cases ho : S % 2 = 1
     ·
      have HZ : Hid (uz S = -(h2 : Int) - 1) := Lib.hid (by unfold uz; rw [if_pos ho,HHf.out])
      rw [show (S : Int) % 2 = 1 by omega] at hand1
      have hx := i64_not_right h2 (by omega)
      clear ho
      go_wp2
      go_ret
      refine ⟨by rw [rNum_ok rfl HE.out,HZ.out]; rfl,?_,HUz.out.trans (Upd.set _)⟩
      rw [rNum_ok rfl HE.out]
      have hat := HRz.out.at (a + 4) (by omega)
      rw [← e64] at hat
      exact hat
     ·
      have HZ : Hid (uz S = (h2 : Int)) := Lib.hid (by unfold uz; rw [if_neg ho,HHf.out])
      rw [show (S : Int) % 2 = 0 by omega] at hand1
      have hx := i64_same h2 (by omega)
      clear ho
      go_wp2
      go_ret
      refine ⟨by rw [rNum_ok rfl HE.out,HZ.out]; rfl,?_,HUz.out.trans (Upd.set _)⟩
      rw [rNum_ok rfl HE.out]
      have hat := HRz.out.at (a + 4) (by omega)
      rw [← e64] at hat
      exact hat
    ·
     have hub : u < 268435456 := HU.out
     obtain ⟨S,hS⟩ : ∃ S,u + r * 268435456 = S := ⟨_,rfl⟩
     have HSm := Lib.hid hS
     have HUb := Lib.hid hub
     have hSb : S < 34359738368 := by omega
     have HSb := Lib.hid hSb
     have hor : bits .or .u64 (u : Int) ((r : Int) * 268435456) = (S : Int) := by
      rw [u64_orv28 _ _ (by omega) (by omega) (by omega) (by omega) (by omega)]
      omega
     by_cases hm : 128 ≤ c
     ·
      have HNx : Hid (rd 5 S (bs.drop (a + 5)) = num (bs.drop a)) := Lib.hid (by
       have h := HN.out
       rw [HDr.out,rd_more (by omega) (by rw [HCx.out]; exact hm),HCx.out,HRc.out] at h
       rw [← HSm.out]
       exact h)
      have HPw : Hid (S < pw 5) := Lib.hid (by
       rw [show pw 5 = 34359738368 by decide]
       exact HSb.out)
      have a1 : ¬ (c : Int) < 128 := by omega
      clear hub hS hSb
      go_wp2
      go_roundw
      case rel => exact ⟨5,S,rfl,rfl,by omega,by omega,HPw,HNx,HBz⟩
      case measure => simp [intOf]; omega
     have hrc : r = c := by
      have := HRc.out
      omega
     have a2 : (c : Int) < 128 := by omega
     by_cases hc0 : c = 0
     ·
      have HE : Hid (num (bs.drop a) = .inl 4) := Lib.hid (by
       rw [← HN.out,HDr.out,rd_zero (by rw [HCx.out]; exact hc0) (by omega)])
      have q0 : ((c : Int) == 0) = true := beq_iff_eq.2 (by omega)
      clear hc0 hrc hSb
      clear hub hS
      go_wp2
      go_ret
      refine ⟨by rw [rNum_bad rfl HE.out]; rfl,?_,HUz.out.trans (Upd.set _)⟩
      rw [rNum_bad rfl HE.out]
      exact HRz.out.wrong 4
     have q0 : ((c : Int) == 0) = false := beq_eq_false_iff_ne.2 (by omega)
     have HE : Hid (num (bs.drop a) = .inr (S,5)) := Lib.hid (by
      rw [← HN.out,HDr.out,rd_last (by rw [HCx.out]; omega) (by rw [HCx.out]; omega) (by rw [HCx.out]; omega),HCx.out,← HSm.out,hrc])
     have hS64 : S < 18446744073709551616 := (Nat.lt_of_lt_of_le HSb.out (by omega))
     obtain ⟨h2,hh2⟩ : ∃ h2,S / 2 = h2 := ⟨_,rfl⟩
     have hdiv : (S : Int) / 2 = (h2 : Int) := by omega
     have hh2b : h2 ≤ 9223372036854775807 := by omega
     have hand1 := Lib.u64_and1 (S : Int) (by omega) (by omega)
     have HHf := Lib.hid hh2
     have e64 : (a : Int) + 4 + 1 = ((a + 5 : Nat) : Int) := by omega
     have HS64 := Lib.hid hS64
     clear hub hS hSb hrc hc0 hS64 hh2
     by_cases ho : S % 2 = 1
     ·
      have HZ : Hid (uz S = -(h2 : Int) - 1) := Lib.hid (by unfold uz; rw [if_pos ho,HHf.out])
      rw [show (S : Int) % 2 = 1 by omega] at hand1
      have hx := i64_not_right h2 (by omega)
      clear ho
      go_wp2
      go_ret
      refine ⟨by rw [rNum_ok rfl HE.out,HZ.out]; rfl,?_,HUz.out.trans (Upd.set _)⟩
      rw [rNum_ok rfl HE.out]
      have hat := HRz.out.at (a + 5) (by omega)
      rw [← e64] at hat
      exact hat
     ·
      have HZ : Hid (uz S = (h2 : Int)) := Lib.hid (by unfold uz; rw [if_neg ho,HHf.out])
      rw [show (S : Int) % 2 = 0 by omega] at hand1
      have hx := i64_same h2 (by omega)
      clear ho
      go_wp2
      go_ret
      refine ⟨by rw [rNum_ok rfl HE.out,HZ.out]; rfl,?_,HUz.out.trans (Upd.set _)⟩
      rw [rNum_ok rfl HE.out]
      have hat := HRz.out.at (a + 5) (by omega)
      rw [← e64] at hat
      exact hat
    ·
     have hub : u < 34359738368 := HU.out
     obtain ⟨S,hS⟩ : ∃ S,u + r * 34359738368 = S := ⟨_,rfl⟩
     have HSm := Lib.hid hS
     have HUb := Lib.hid hub
     have hSb : S < 4398046511104 := by omega
     have HSb := Lib.hid hSb
     have hor : bits .or .u64 (u : Int) ((r : Int) * 34359738368) = (S : Int) := by
      rw [u64_orv35 _ _ (by omega) (by omega) (by omega) (by omega) (by omega)]
      omega
     by_cases hm : 128 ≤ c
     ·
      have HNx : Hid (rd 6 S (bs.drop (a + 6)) = num (bs.drop a)) := Lib.hid (by
       have h := HN.out
       rw [HDr.out,rd_more (by omega) (by rw [HCx.out]; exact hm),HCx.out,HRc.out] at h
       rw [← HSm.out]
       exact h)
      have HPw : Hid (S < pw 6) := Lib.hid (by
       rw [show pw 6 = 4398046511104 by decide]
       exact HSb.out)
      have a1 : ¬ (c : Int) < 128 := by omega
      clear hub hS hSb
      go_wp2
      go_roundw
      case rel => exact ⟨6,S,rfl,rfl,by omega,by omega,HPw,HNx,HBz⟩
      case measure => simp [intOf]; omega
     have hrc : r = c := by
      have := HRc.out
      omega
     have a2 : (c : Int) < 128 := by omega
     by_cases hc0 : c = 0
     ·
      have HE : Hid (num (bs.drop a) = .inl 4) := Lib.hid (by
       rw [← HN.out,HDr.out,rd_zero (by rw [HCx.out]; exact hc0) (by omega)])
      have q0 : ((c : Int) == 0) = true := beq_iff_eq.2 (by omega)
      clear hc0 hrc hSb
      clear hub hS
      go_wp2
      go_ret
      refine ⟨by rw [rNum_bad rfl HE.out]; rfl,?_,HUz.out.trans (Upd.set _)⟩
      rw [rNum_bad rfl HE.out]
      exact HRz.out.wrong 4
     have q0 : ((c : Int) == 0) = false := beq_eq_false_iff_ne.2 (by omega)
     have HE : Hid (num (bs.drop a) = .inr (S,6)) := Lib.hid (by
      rw [← HN.out,HDr.out,rd_last (by rw [HCx.out]; omega) (by rw [HCx.out]; omega) (by rw [HCx.out]; omega),HCx.out,← HSm.out,hrc])
     have hS64 : S < 18446744073709551616 := (Nat.lt_of_lt_of_le HSb.out (by omega))
     obtain ⟨h2,hh2⟩ : ∃ h2,S / 2 = h2 := ⟨_,rfl⟩
     have hdiv : (S : Int) / 2 = (h2 : Int) := by omega
     have hh2b : h2 ≤ 9223372036854775807 := by omega
     have hand1 := Lib.u64_and1 (S : Int) (by omega) (by omega)
     have HHf := Lib.hid hh2
     have e64 : (a : Int) + 5 + 1 = ((a + 6 : Nat) : Int) := by omega
     have HS64 := Lib.hid hS64
     clear hub hS hSb hrc hc0 hS64 hh2
     by_cases ho : S % 2 = 1
     ·
      have HZ : Hid (uz S = -(h2 : Int) - 1) := Lib.hid (by unfold uz; rw [if_pos ho,HHf.out])
      rw [show (S : Int) % 2 = 1 by omega] at hand1
      have hx := i64_not_right h2 (by omega)
      clear ho
      go_wp2
      go_ret
      refine ⟨by rw [rNum_ok rfl HE.out,HZ.out]; rfl,?_,HUz.out.trans (Upd.set _)⟩
      rw [rNum_ok rfl HE.out]
      have hat := HRz.out.at (a + 6) (by omega)
      rw [← e64] at hat
      exact hat
     ·
      have HZ : Hid (uz S = (h2 : Int)) := Lib.hid (by unfold uz; rw [if_neg ho,HHf.out])
      rw [show (S : Int) % 2 = 0 by omega] at hand1
      have hx := i64_same h2 (by omega)
      clear ho
      go_wp2
      go_ret
      refine ⟨by rw [rNum_ok rfl HE.out,HZ.out]; rfl,?_,HUz.out.trans (Upd.set _)⟩
      rw [rNum_ok rfl HE.out]
      have hat := HRz.out.at (a + 6) (by omega)
      rw [← e64] at hat
      exact hat
    ·
     have hub : u < 4398046511104 := HU.out
     obtain ⟨S,hS⟩ : ∃ S,u + r * 4398046511104 = S := ⟨_,rfl⟩
     have HSm := Lib.hid hS
     have HUb := Lib.hid hub
     have hSb : S < 562949953421312 := by omega
     have HSb := Lib.hid hSb
     have hor : bits .or .u64 (u : Int) ((r : Int) * 4398046511104) = (S : Int) := by
      rw [u64_orv42 _ _ (by omega) (by omega) (by omega) (by omega) (by omega)]
      omega
     by_cases hm : 128 ≤ c
     ·
      have HNx : Hid (rd 7 S (bs.drop (a + 7)) = num (bs.drop a)) := Lib.hid (by
       have h := HN.out
       rw [HDr.out,rd_more (by omega) (by rw [HCx.out]; exact hm),HCx.out,HRc.out] at h
       rw [← HSm.out]
       exact h)
      have HPw : Hid (S < pw 7) := Lib.hid (by
       rw [show pw 7 = 562949953421312 by decide]
       exact HSb.out)
      have a1 : ¬ (c : Int) < 128 := by omega
      clear hub hS hSb
      go_wp2
      go_roundw
      case rel => exact ⟨7,S,rfl,rfl,by omega,by omega,HPw,HNx,HBz⟩
      case measure => simp [intOf]; omega
     have hrc : r = c := by
      have := HRc.out
      omega
     have a2 : (c : Int) < 128 := by omega
     by_cases hc0 : c = 0
     ·
      have HE : Hid (num (bs.drop a) = .inl 4) := Lib.hid (by
       rw [← HN.out,HDr.out,rd_zero (by rw [HCx.out]; exact hc0) (by omega)])
      have q0 : ((c : Int) == 0) = true := beq_iff_eq.2 (by omega)
      clear hc0 hrc hSb
      clear hub hS
      go_wp2
      go_ret
      refine ⟨by rw [rNum_bad rfl HE.out]; rfl,?_,HUz.out.trans (Upd.set _)⟩
      rw [rNum_bad rfl HE.out]
      exact HRz.out.wrong 4
     have q0 : ((c : Int) == 0) = false := beq_eq_false_iff_ne.2 (by omega)
     have HE : Hid (num (bs.drop a) = .inr (S,7)) := Lib.hid (by
      rw [← HN.out,HDr.out,rd_last (by rw [HCx.out]; omega) (by rw [HCx.out]; omega) (by rw [HCx.out]; omega),HCx.out,← HSm.out,hrc])
     have hS64 : S < 18446744073709551616 := (Nat.lt_of_lt_of_le HSb.out (by omega))
     obtain ⟨h2,hh2⟩ : ∃ h2,S / 2 = h2 := ⟨_,rfl⟩
     have hdiv : (S : Int) / 2 = (h2 : Int) := by omega
     have hh2b : h2 ≤ 9223372036854775807 := by omega
     have hand1 := Lib.u64_and1 (S : Int) (by omega) (by omega)
     have HHf := Lib.hid hh2
     have e64 : (a : Int) + 6 + 1 = ((a + 7 : Nat) : Int) := by omega
     have HS64 := Lib.hid hS64
     clear hub hS hSb hrc hc0 hS64 hh2
     by_cases ho : S % 2 = 1
     ·
      have HZ : Hid (uz S = -(h2 : Int) - 1) := Lib.hid (by unfold uz; rw [if_pos ho,HHf.out])
      rw [show (S : Int) % 2 = 1 by omega] at hand1
      have hx := i64_not_right h2 (by omega)
      clear ho
      go_wp2
      go_ret
      refine ⟨by rw [rNum_ok rfl HE.out,HZ.out]; rfl,?_,HUz.out.trans (Upd.set _)⟩
      rw [rNum_ok rfl HE.out]
      have hat := HRz.out.at (a + 7) (by omega)
      rw [← e64] at hat
      exact hat
     ·
      have HZ : Hid (uz S = (h2 : Int)) := Lib.hid (by unfold uz; rw [if_neg ho,HHf.out])
      rw [show (S : Int) % 2 = 0 by omega] at hand1
      have hx := i64_same h2 (by omega)
      clear ho
      go_wp2
      go_ret
      refine ⟨by rw [rNum_ok rfl HE.out,HZ.out]; rfl,?_,HUz.out.trans (Upd.set _)⟩
      rw [rNum_ok rfl HE.out]
      have hat := HRz.out.at (a + 7) (by omega)
      rw [← e64] at hat
      exact hat
    ·
     have hub : u < 562949953421312 := HU.out
     obtain ⟨S,hS⟩ : ∃ S,u + r * 562949953421312 = S := ⟨_,rfl⟩
     have HSm := Lib.hid hS
     have HUb := Lib.hid hub
     have hSb : S < 72057594037927936 := by omega
     have HSb := Lib.hid hSb
     have hor : bits .or .u64 (u : Int) ((r : Int) * 562949953421312) = (S : Int) := by
      rw [u64_orv49 _ _ (by omega) (by omega) (by omega) (by omega) (by omega)]
      omega
     by_cases hm : 128 ≤ c
     ·
      have HNx : Hid (rd 8 S (bs.drop (a + 8)) = num (bs.drop a)) := Lib.hid (by
       have h := HN.out
       rw [HDr.out,rd_more (by omega) (by rw [HCx.out]; exact hm),HCx.out,HRc.out] at h
       rw [← HSm.out]
       exact h)
      have HPw : Hid (S < pw 8) := Lib.hid (by
       rw [show pw 8 = 72057594037927936 by decide]
       exact HSb.out)
      have a1 : ¬ (c : Int) < 128 := by omega
      clear hub hS hSb
      go_wp2
      go_roundw
      case rel => exact ⟨8,S,rfl,rfl,by omega,by omega,HPw,HNx,HBz⟩
      case measure => simp [intOf]; omega
     have hrc : r = c := by
      have := HRc.out
      omega
     have a2 : (c : Int) < 128 := by omega
     by_cases hc0 : c = 0
     ·
      have HE : Hid (num (bs.drop a) = .inl 4) := Lib.hid (by
       rw [← HN.out,HDr.out,rd_zero (by rw [HCx.out]; exact hc0) (by omega)])
      have q0 : ((c : Int) == 0) = true := beq_iff_eq.2 (by omega)
      clear hc0 hrc hSb
      clear hub hS
      go_wp2
      go_ret
      refine ⟨by rw [rNum_bad rfl HE.out]; rfl,?_,HUz.out.trans (Upd.set _)⟩
      rw [rNum_bad rfl HE.out]
      exact HRz.out.wrong 4
     have q0 : ((c : Int) == 0) = false := beq_eq_false_iff_ne.2 (by omega)
     have HE : Hid (num (bs.drop a) = .inr (S,8)) := Lib.hid (by
      rw [← HN.out,HDr.out,rd_last (by rw [HCx.out]; omega) (by rw [HCx.out]; omega) (by rw [HCx.out]; omega),HCx.out,← HSm.out,hrc])
     have hS64 : S < 18446744073709551616 := (Nat.lt_of_lt_of_le HSb.out (by omega))
     obtain ⟨h2,hh2⟩ : ∃ h2,S / 2 = h2 := ⟨_,rfl⟩
     have hdiv : (S : Int) / 2 = (h2 : Int) := by omega
     have hh2b : h2 ≤ 9223372036854775807 := by omega
     have hand1 := Lib.u64_and1 (S : Int) (by omega) (by omega)
     have HHf := Lib.hid hh2
     have e64 : (a : Int) + 7 + 1 = ((a + 8 : Nat) : Int) := by omega
     have HS64 := Lib.hid hS64
     clear hub hS hSb hrc hc0 hS64 hh2
     by_cases ho : S % 2 = 1
     ·
      have HZ : Hid (uz S = -(h2 : Int) - 1) := Lib.hid (by unfold uz; rw [if_pos ho,HHf.out])
      rw [show (S : Int) % 2 = 1 by omega] at hand1
      have hx := i64_not_right h2 (by omega)
      clear ho
      go_wp2
      go_ret
      refine ⟨by rw [rNum_ok rfl HE.out,HZ.out]; rfl,?_,HUz.out.trans (Upd.set _)⟩
      rw [rNum_ok rfl HE.out]
      have hat := HRz.out.at (a + 8) (by omega)
      rw [← e64] at hat
      exact hat
     ·
      have HZ : Hid (uz S = (h2 : Int)) := Lib.hid (by unfold uz; rw [if_neg ho,HHf.out])
      rw [show (S : Int) % 2 = 0 by omega] at hand1
      have hx := i64_same h2 (by omega)
      clear ho
      go_wp2
      go_ret
      refine ⟨by rw [rNum_ok rfl HE.out,HZ.out]; rfl,?_,HUz.out.trans (Upd.set _)⟩
      rw [rNum_ok rfl HE.out]
      have hat := HRz.out.at (a + 8) (by omega)
      rw [← e64] at hat
      exact hat
    ·
     have hub : u < 72057594037927936 := HU.out
     obtain ⟨S,hS⟩ : ∃ S,u + r * 72057594037927936 = S := ⟨_,rfl⟩
     have HSm := Lib.hid hS
     have HUb := Lib.hid hub
     have hSb : S < 9223372036854775808 := by omega
     have HSb := Lib.hid hSb
     have hor : bits .or .u64 (u : Int) ((r : Int) * 72057594037927936) = (S : Int) := by
      rw [u64_orv56 _ _ (by omega) (by omega) (by omega) (by omega) (by omega)]
      omega
     by_cases hm : 128 ≤ c
     ·
      have HNx : Hid (rd 9 S (bs.drop (a + 9)) = num (bs.drop a)) := Lib.hid (by
       have h := HN.out
       rw [HDr.out,rd_more (by omega) (by rw [HCx.out]; exact hm),HCx.out,HRc.out] at h
       rw [← HSm.out]
       exact h)
      have HPw : Hid (S < pw 9) := Lib.hid (by
       rw [show pw 9 = 9223372036854775808 by decide]
       exact HSb.out)
      have a1 : ¬ (c : Int) < 128 := by omega
      clear hub hS hSb
      go_wp2
      go_roundw
      case rel => exact ⟨9,S,rfl,rfl,by omega,by omega,HPw,HNx,HBz⟩
      case measure => simp [intOf]; omega
     have hrc : r = c := by
      have := HRc.out
      omega
     have a2 : (c : Int) < 128 := by omega
     by_cases hc0 : c = 0
     ·
      have HE : Hid (num (bs.drop a) = .inl 4) := Lib.hid (by
       rw [← HN.out,HDr.out,rd_zero (by rw [HCx.out]; exact hc0) (by omega)])
      have q0 : ((c : Int) == 0) = true := beq_iff_eq.2 (by omega)
      clear hc0 hrc hSb
      clear hub hS
      go_wp2
      go_ret
      refine ⟨by rw [rNum_bad rfl HE.out]; rfl,?_,HUz.out.trans (Upd.set _)⟩
      rw [rNum_bad rfl HE.out]
      exact HRz.out.wrong 4
     have q0 : ((c : Int) == 0) = false := beq_eq_false_iff_ne.2 (by omega)
     have HE : Hid (num (bs.drop a) = .inr (S,9)) := Lib.hid (by
      rw [← HN.out,HDr.out,rd_last (by rw [HCx.out]; omega) (by rw [HCx.out]; omega) (by rw [HCx.out]; omega),HCx.out,← HSm.out,hrc])
     have hS64 : S < 18446744073709551616 := (Nat.lt_of_lt_of_le HSb.out (by omega))
     obtain ⟨h2,hh2⟩ : ∃ h2,S / 2 = h2 := ⟨_,rfl⟩
     have hdiv : (S : Int) / 2 = (h2 : Int) := by omega
     have hh2b : h2 ≤ 9223372036854775807 := by omega
     have hand1 := Lib.u64_and1 (S : Int) (by omega) (by omega)
     have HHf := Lib.hid hh2
     have e64 : (a : Int) + 8 + 1 = ((a + 9 : Nat) : Int) := by omega
     have HS64 := Lib.hid hS64
     clear hub hS hSb hrc hc0 hS64 hh2
     by_cases ho : S % 2 = 1
     ·
      have HZ : Hid (uz S = -(h2 : Int) - 1) := Lib.hid (by unfold uz; rw [if_pos ho,HHf.out])
      rw [show (S : Int) % 2 = 1 by omega] at hand1
      have hx := i64_not_right h2 (by omega)
      clear ho
      go_wp2
      go_ret
      refine ⟨by rw [rNum_ok rfl HE.out,HZ.out]; rfl,?_,HUz.out.trans (Upd.set _)⟩
      rw [rNum_ok rfl HE.out]
      have hat := HRz.out.at (a + 9) (by omega)
      rw [← e64] at hat
      exact hat
     ·
      have HZ : Hid (uz S = (h2 : Int)) := Lib.hid (by unfold uz; rw [if_neg ho,HHf.out])
      rw [show (S : Int) % 2 = 0 by omega] at hand1
      have hx := i64_same h2 (by omega)
      clear ho
      go_wp2
      go_ret
      refine ⟨by rw [rNum_ok rfl HE.out,HZ.out]; rfl,?_,HUz.out.trans (Upd.set _)⟩
      rw [rNum_ok rfl HE.out]
      have hat := HRz.out.at (a + 9) (by omega)
      rw [← e64] at hat
      exact hat
    ·
     have hub : u < 9223372036854775808 := HU.out
     obtain ⟨S,hS⟩ : ∃ S,u + r * 9223372036854775808 = S := ⟨_,rfl⟩
     have HSm := Lib.hid hS
     have HUb := Lib.hid hub
     by_cases ht : 1 < c
     ·
      have HE : Hid (num (bs.drop a) = .inl 4) := Lib.hid (by
       rw [← HN.out,HDr.out,rd_ten rfl (by rw [HCx.out]; exact ht)])
      have a1 : (1 : Int) < (c : Int) := by omega
      clear hub hS
      go_wp2
      go_ret
      refine ⟨by rw [rNum_bad rfl HE.out]; rfl,?_,HUz.out.trans (Upd.set _)⟩
      rw [rNum_bad rfl HE.out]
      exact HRz.out.wrong 4
     have hrc : r = c := by
      have := HRc.out
      omega
     have hSb : S < 18446744073709551616 := by omega
     have hor : bits .or .u64 (u : Int) ((r : Int) * 9223372036854775808) = (S : Int) := by
      rw [u64_orv63 _ _ (by omega) (by omega) (by omega) (by omega) (by omega)]
      omega
     have HSb := Lib.hid hSb
     have hr1 : r ≤ 1 := by omega
     have a0 : ¬ (1 : Int) < (c : Int) := by omega
     have a2 : (c : Int) < 128 := by omega
     by_cases hc0 : c = 0
     ·
      have HE : Hid (num (bs.drop a) = .inl 4) := Lib.hid (by
       rw [← HN.out,HDr.out,rd_zero (by rw [HCx.out]; exact hc0) (by omega)])
      have q0 : ((c : Int) == 0) = true := beq_iff_eq.2 (by omega)
      clear hc0 hrc hSb
      clear hub hS
      go_wp2
      go_ret
      refine ⟨by rw [rNum_bad rfl HE.out]; rfl,?_,HUz.out.trans (Upd.set _)⟩
      rw [rNum_bad rfl HE.out]
      exact HRz.out.wrong 4
     have q0 : ((c : Int) == 0) = false := beq_eq_false_iff_ne.2 (by omega)
     have HE : Hid (num (bs.drop a) = .inr (S,10)) := Lib.hid (by
      rw [← HN.out,HDr.out,rd_last (by rw [HCx.out]; omega) (by rw [HCx.out]; omega) (by rw [HCx.out]; omega),HCx.out,← HSm.out,hrc])
     have hS64 : S < 18446744073709551616 := HSb.out
     obtain ⟨h2,hh2⟩ : ∃ h2,S / 2 = h2 := ⟨_,rfl⟩
     have hdiv : (S : Int) / 2 = (h2 : Int) := by omega
     have hh2b : h2 ≤ 9223372036854775807 := by omega
     have hand1 := Lib.u64_and1 (S : Int) (by omega) (by omega)
     have HHf := Lib.hid hh2
     have e64 : (a : Int) + 9 + 1 = ((a + 10 : Nat) : Int) := by omega
     have HS64 := Lib.hid hS64
     clear hub hS hSb hrc hc0 hS64 hh2
     by_cases ho : S % 2 = 1
     ·
      have HZ : Hid (uz S = -(h2 : Int) - 1) := Lib.hid (by unfold uz; rw [if_pos ho,HHf.out])
      rw [show (S : Int) % 2 = 1 by omega] at hand1
      have hx := i64_not_right h2 (by omega)
      clear ho
      go_wp2
      go_ret
      refine ⟨by rw [rNum_ok rfl HE.out,HZ.out]; rfl,?_,HUz.out.trans (Upd.set _)⟩
      rw [rNum_ok rfl HE.out]
      have hat := HRz.out.at (a + 10) (by omega)
      rw [← e64] at hat
      exact hat
     ·
      have HZ : Hid (uz S = (h2 : Int)) := Lib.hid (by unfold uz; rw [if_neg ho,HHf.out])
      rw [show (S : Int) % 2 = 0 by omega] at hand1
      have hx := i64_same h2 (by omega)
      clear ho
      go_wp2
      go_ret
      refine ⟨by rw [rNum_ok rfl HE.out,HZ.out]; rfl,?_,HUz.out.trans (Upd.set _)⟩
      rw [rNum_ok rfl HE.out]
      have hat := HRz.out.at (a + 10) (by omega)
      rw [← e64] at hat
      exact hat
   ·
    have HE : Hid (num (bs.drop a) = .inl 3) := Lib.hid (by
     rw [← HN.out,List.drop_eq_nil_of_le (by rw [← HLen.out]; omega),rd_nil])
    go_wp2
    refine wp_region_quiet_below (by kernel_rfl) (by kernel_rfl) ?_
    repeat (first | go_big_quiet_step (fail) | quiet_step (fail))
    refine wpQuiet_nil ?_
    intro _ hw'
    obtain ⟨⟨dq,osq⟩,hw''⟩ := hw'
    subst hw''
    have HBz := Lib.hid (bchain HB.out (below_regrown wr dq osq))
    clear k0 k1
    generalize grow (redrawn wr dq) osq = z at *
    have HRz := Lib.hid (HR.out.below HBz.out)
    have HUz := Lib.hid (Upd.of p HBz.out)
    have d2 := HRz.out.c2
    have df := HRz.out.fz
    dsimp only at d2
    go_wp2
    go_ret
    refine ⟨by rw [rNum_bad rfl HE.out]; rfl,?_,HUz.out.trans (Upd.set _)⟩
    rw [rNum_bad rfl HE.out]
    exact HRz.out.wrong 3
 ·
  have HN := Lib.hid (rNum_wrong (bs := bs) (s := ⟨a,er⟩) he)
  have hne : (er != 0) = true := bne_iff_ne.2 he
  go_enter Try.func40,Try.ntmps40
  go_wp2
  go_ret
  exact ⟨by rw [HN.out]; rfl,by rw [HN.out]; exact HR.out,Upd.refl _ _⟩
end Go.Proofs.Ytagjbjppddbalaa
