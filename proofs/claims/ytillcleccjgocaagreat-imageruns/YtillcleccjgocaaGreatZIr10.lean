import Derived.Deep.RegionHeld3
import Derived.Maps.AppendAt
import Derived.Laws.AppendOwnNone
import Derived.Laws.Rows
import Derived.Laws.CopyOwn
import Derived.Laws.MakeOwn
import Derived.Lib.QuietBelow
import Derived.RegionTactic
import Derived.SizedLaws
import Derived.Deep.Slices
import Derived.Lib.SmallJoins
import Derived.Deep.DeepCutAuto
import Derived.Test.YtillcleccjgocaaGreatZIr1
import Derived.Test.YtillcleccjgocaaGreatZIr2
import Derived.Test.YtillcleccjgocaaGreatZIr3
import Derived.Test.YtillcleccjgocaaGreatZIr4
import Derived.Test.YtillcleccjgocaaGreatZIr5
import Derived.Test.YtillcleccjgocaaGreatZIr6
import Derived.Test.YtillcleccjgocaaGreatZIr8
import Derived.Test.YtillcleccjgocaaGreatZIr9
set_option maxRecDepth 100000
set_option linter.unusedVariables false
namespace Go.Proofs.YtillcleccjgocaaGreat
open Go.RowKit
open Mem Pk Cm
theorem IwE.bel {w0 w : World} {bs : List UInt8} (h : IwE w0 w bs) : Below w0.heap.size w0 w := by
 obtain ⟨ao,n,cap,h⟩ := h
 exact h.bel
theorem Im.items_take {α : Type} (B : α → List UInt8) {l : List α} {k : Nat} (h : k < l.length) : Im.itemsB B (l.take (k + 1)) = Im.itemsB B (l.take k) ++ B l[k] := by
 rw [List.take_succ_eq_append_getElem h,Im.itemsB_app]
 show _ ++ (B l[k] ++ []) = _
 rw [List.append_nil]
theorem Im.items_max {α : Type} {B : α → List UInt8} {M : Nat} : ∀ {l : List α},(∀ a ∈ l,(B a).length ≤ M) → (Im.itemsB B l).length ≤ l.length * M
 | [],_ => Nat.zero_le _
 | a :: l,h => by
  have h1 := Im.items_max (B := B) (l := l) fun x hx => h x (by simp [hx])
  have h2 := h a (by simp)
  rw [Im.itemsB,List.length_append,List.length_cons,Nat.succ_mul]
  omega
theorem Im.Rt_max (r : Vt.Rt) (hh : (r.cat.size ≤ 1000 ∧ Fit r.y ∧ Fit r.m ∧ Fit r.d ∧ Fit r.bp)) : (Im.rateB r).length ≤ 2200 := by
 unfold Im.rateB
 simp only [List.length_append]
 have := tx_74 r.cat hh.1
 have := day_30 r.y r.m r.d
 have := nm_10 r.bp
 omega
set_option maxHeartbeats 1000000 in
theorem iw_listRt (rs : List Vt.Rt) (ao : Option Addr) (n cap : Nat) (bs : List UInt8) (w0 w : World) (hW : IwE w0 w bs) (hL : Rts w0 ao n cap rs) (hk : ∀ r ∈ rs,(r.cat.size ≤ 1000 ∧ Fit r.y ∧ Fit r.m ∧ Fit r.d ∧ Fit r.bp)) (hn : n ≤ 30) (hm : bs.length ≤ 800000) :
  Calls Tryz.prog 35 #[.pointer (some ⟨w0.heap.size,0,none⟩),.slice ao n cap,.func (.func 36) #[.pointer (some ⟨w0.heap.size,0,none⟩)] #[]] w fun e w' => e = .returned (.tuple #[]) ∧ IwE w0 w' (bs ++ Im.listB Im.rateB rs) ∧ IwF w0 w w' := by
 have HL := Lib.hid hL
 have HN := Lib.hid hL.len
 have HK := Lib.hid hk
 have HM := Lib.hid hm
 have HW := Lib.hid hW
 have hcap := hL.reach
 have hfit := hL.fits
 obtain ⟨p,hp⟩ : ∃ p,w0.heap.size = p := ⟨_,rfl⟩
 have HP := Lib.hid hp
 have HNu : Hid (∀ u bs',IwE w0 u bs' → bs'.length ≤ 1000000 → Calls Tryz.prog 43 #[.pointer (some ⟨p,0,none⟩),.int .i64 (n : Int)] u fun e w' => e = .returned (.tuple #[]) ∧ IwE w0 w' (bs' ++ nm (n : Int)) ∧ IwF w0 u w') := Lib.hid fun u bs' h1 h2 => by
  rw [← HP.out]
  exact iw_num (n : Int) ⟨by omega,by omega⟩ bs' w0 u h1 h2
 have HCo : Hid (∀ (r : Vt.Rt),r ∈ rs → ∀ u bs',IwE w0 u bs' → bs'.length ≤ 900000 → Calls Tryz.prog 36 #[.pointer (some ⟨p,0,none⟩),.agg #[.string r.cat,.int .i64 r.y,.int .i64 r.m,.int .i64 r.d,.int .i64 r.bp]] u fun e w' => e = .returned (.tuple #[]) ∧ IwE w0 w' (bs' ++ Im.rateB r) ∧ IwF w0 u w') := Lib.hid fun r hr u bs' h1 h2 => by
  rw [← HP.out]
  exact iw_rate r (HK.out r hr) bs' w0 u h1 h2
 rw [hp]
 clear hL hk hm hW hp
 go_enter Tryz.func35,Tryz.ntmps35
 go_wp2_with fail
 refine (HNu.out w bs HW.out (by have := HM.out; omega)).mono ?_
 rintro e w1 ⟨rfl,i1,f1⟩
 have HI1 := Lib.hid i1
 have HF1 := Lib.hid f1
 clear i1 f1
 go_wp2_with fail
 go_loopw [7,14] (fun _ j wr => ∃ k : Nat,k ≤ n ∧ j = .int .i64 k ∧ Hid (IwE w0 wr (bs ++ nm (n : Int) ++ Im.itemsB Im.rateB (rs.take k))) ∧ Hid (IwF w0 w wr)) (fun _ j _ => n - (intOf j).toNat)
 case atStart => exact ⟨0,by omega,rfl,Lib.hid (by rw [List.take_zero,Im.itemsB,List.append_nil]; exact HI1.out),HF1⟩
 case round =>
  clear HI1 HF1
  rename World => wz
  obtain ⟨k,hk,rfl,HI,HF⟩ := hrel
  by_cases hlt : k < n
  ·
   obtain ⟨b,off,rfl⟩ := HL.out.at (by omega)
   have hkl : k < rs.length := HN.out ▸ hlt
   have hrow := (HL.out.row k hkl).below HI.out.bel
   have HT := Lib.hid (Im.items_take Im.rateB hkl)
   have HMe := Lib.hid (List.getElem_mem hkl)
   have HLe : Hid ((bs ++ nm (n : Int) ++ Im.itemsB Im.rateB (rs.take k)).length ≤ 900000) := Lib.hid (by
    have h1 := Im.items_max (B := Im.rateB) (M := 2200) (l := rs.take k) fun a ha => Im.Rt_max a (HK.out a (List.mem_of_mem_take ha))
    have h2 := nm_10 (n : Int)
    have h3 := HM.out
    rw [List.length_take] at h1
    rw [List.length_append,List.length_append]
    have h4 : min k rs.length * 2200 ≤ 30 * 2200 := Nat.mul_le_mul_right _ (by omega)
    omega)
   obtain ⟨r,hr⟩ : ∃ r,rs[k] = r := ⟨_,rfl⟩
   rw [hr] at hrow HT HMe
   clear hr
   obtain ⟨r0,r1,r2,r3,r4⟩ := hrow
   obtain ⟨hI,hF⟩ := HI.out.boxed (.cells #[.string r.cat,.int .i64 r.y,.int .i64 r.m,.int .i64 r.d,.int .i64 r.bp] 63)
   obtain ⟨U,hU⟩ : ∃ U,wz.alloc (.cells #[.string r.cat,.int .i64 r.y,.int .i64 r.m,.int .i64 r.d,.int .i64 r.bp] 63) = U := ⟨_,rfl⟩
   rw [hU] at hI hF
   have HIb := Lib.hid hI
   have HFb := Lib.hid hF
   have c0 := hI.cell 0
   have c1 := hI.cell 1
   have c2 := hI.cell 2
   have c3 := hI.cell 3
   have c4 := hI.cell 4
   simp only [List.getElem?_toArray,List.getElem?_cons_zero,List.getElem?_cons_succ] at c0 c1 c2 c3 c4
   clear hI hF
   go_wp2_with fail
   refine (HCo.out r HMe.out U _ HIb.out.wr HLe.out).mono ?_
   rintro e w3 ⟨rfl,i3,f3⟩
   have HI3 := Lib.hid i3
   have HF3 := Lib.hid ((HF.out.trans HFb.out).trans f3)
   clear i3 f3 hU r0 r1 r2 r3 r4 c0 c1 c2 c3 c4
   go_wp2_with fail
   go_roundw
   case rel =>
    refine ⟨k + 1,by omega,by go_num,Lib.hid ?_,HF3⟩
    rw [HT.out,← List.append_assoc]
    exact HI3.out
   case measure => simp [intOf]; omega
  ·
   obtain rfl : k = n := by omega
   have HE : Hid (IwE w0 wz (bs ++ Im.listB Im.rateB rs)) := Lib.hid (by
    have h := HI.out
    rw [List.take_of_length_le (Nat.le_of_eq HN.out.symm),List.append_assoc,HN.out] at h
    exact h)
   go_wp2_with fail
   go_end0
   exact ⟨rfl,HE.out,HF.out⟩
theorem Im.Sr_max (r : Sr.T) (hh : (r.name.size ≤ 1000 ∧ Fit r.limit)) : (Im.serB r).length ≤ 1100 := by
 unfold Im.serB Im.flB
 simp only [List.length_append]
 have := tx_74 r.name hh.1
 have := nm_10 r.limit
 have := nm_10 (if r.shut = true then 1 else 0)
 omega
set_option maxHeartbeats 1000000 in
theorem iw_listSr (rs : List Sr.T) (ao : Option Addr) (n cap : Nat) (bs : List UInt8) (w0 w : World) (hW : IwE w0 w bs) (hL : Sr.Ls w0 ao n cap rs) (hk : ∀ r ∈ rs,(r.name.size ≤ 1000 ∧ Fit r.limit)) (hn : n ≤ 30) (hm : bs.length ≤ 800000) :
  Calls Tryz.prog 37 #[.pointer (some ⟨w0.heap.size,0,none⟩),.slice ao n cap,.func (.func 38) #[.pointer (some ⟨w0.heap.size,0,none⟩)] #[]] w fun e w' => e = .returned (.tuple #[]) ∧ IwE w0 w' (bs ++ Im.listB Im.serB rs) ∧ IwF w0 w w' := by
 have HL := Lib.hid hL
 have HN := Lib.hid hL.len
 have HK := Lib.hid hk
 have HM := Lib.hid hm
 have HW := Lib.hid hW
 have hcap := hL.reach
 have hfit := hL.fits
 obtain ⟨p,hp⟩ : ∃ p,w0.heap.size = p := ⟨_,rfl⟩
 have HP := Lib.hid hp
 have HNu : Hid (∀ u bs',IwE w0 u bs' → bs'.length ≤ 1000000 → Calls Tryz.prog 43 #[.pointer (some ⟨p,0,none⟩),.int .i64 (n : Int)] u fun e w' => e = .returned (.tuple #[]) ∧ IwE w0 w' (bs' ++ nm (n : Int)) ∧ IwF w0 u w') := Lib.hid fun u bs' h1 h2 => by
  rw [← HP.out]
  exact iw_num (n : Int) ⟨by omega,by omega⟩ bs' w0 u h1 h2
 have HCo : Hid (∀ (r : Sr.T),r ∈ rs → ∀ u bs',IwE w0 u bs' → bs'.length ≤ 900000 → Calls Tryz.prog 38 #[.pointer (some ⟨p,0,none⟩),.agg #[.string r.name,.int .i64 r.next,.int .i64 r.limit,.bool r.shut]] u fun e w' => e = .returned (.tuple #[]) ∧ IwE w0 w' (bs' ++ Im.serB r) ∧ IwF w0 u w') := Lib.hid fun r hr u bs' h1 h2 => by
  rw [← HP.out]
  exact iw_series r (HK.out r hr) bs' w0 u h1 h2
 rw [hp]
 clear hL hk hm hW hp
 go_enter Tryz.func37,Tryz.ntmps37
 go_wp2_with fail
 refine (HNu.out w bs HW.out (by have := HM.out; omega)).mono ?_
 rintro e w1 ⟨rfl,i1,f1⟩
 have HI1 := Lib.hid i1
 have HF1 := Lib.hid f1
 clear i1 f1
 go_wp2_with fail
 go_loopw [7,14] (fun _ j wr => ∃ k : Nat,k ≤ n ∧ j = .int .i64 k ∧ Hid (IwE w0 wr (bs ++ nm (n : Int) ++ Im.itemsB Im.serB (rs.take k))) ∧ Hid (IwF w0 w wr)) (fun _ j _ => n - (intOf j).toNat)
 case atStart => exact ⟨0,by omega,rfl,Lib.hid (by rw [List.take_zero,Im.itemsB,List.append_nil]; exact HI1.out),HF1⟩
 case round =>
  clear HI1 HF1
  rename World => wz
  obtain ⟨k,hk,rfl,HI,HF⟩ := hrel
  by_cases hlt : k < n
  ·
   obtain ⟨b,off,rfl⟩ := HL.out.at (by omega)
   have hkl : k < rs.length := HN.out ▸ hlt
   have hrow := (HL.out.row k hkl).below HI.out.bel
   have HT := Lib.hid (Im.items_take Im.serB hkl)
   have HMe := Lib.hid (List.getElem_mem hkl)
   have HLe : Hid ((bs ++ nm (n : Int) ++ Im.itemsB Im.serB (rs.take k)).length ≤ 900000) := Lib.hid (by
    have h1 := Im.items_max (B := Im.serB) (M := 1100) (l := rs.take k) fun a ha => Im.Sr_max a (HK.out a (List.mem_of_mem_take ha))
    have h2 := nm_10 (n : Int)
    have h3 := HM.out
    rw [List.length_take] at h1
    rw [List.length_append,List.length_append]
    have h4 : min k rs.length * 1100 ≤ 30 * 1100 := Nat.mul_le_mul_right _ (by omega)
    omega)
   obtain ⟨r,hr⟩ : ∃ r,rs[k] = r := ⟨_,rfl⟩
   rw [hr] at hrow HT HMe
   clear hr
   obtain ⟨r0,r1,r2,r3⟩ := hrow
   obtain ⟨hI,hF⟩ := HI.out.boxed (.cells #[.string r.name,.int .i64 r.next,.int .i64 r.limit,.bool r.shut] 66)
   obtain ⟨U,hU⟩ : ∃ U,wz.alloc (.cells #[.string r.name,.int .i64 r.next,.int .i64 r.limit,.bool r.shut] 66) = U := ⟨_,rfl⟩
   rw [hU] at hI hF
   have HIb := Lib.hid hI
   have HFb := Lib.hid hF
   have c0 := hI.cell 0
   have c1 := hI.cell 1
   have c2 := hI.cell 2
   have c3 := hI.cell 3
   simp only [List.getElem?_toArray,List.getElem?_cons_zero,List.getElem?_cons_succ] at c0 c1 c2 c3
   clear hI hF
   go_wp2_with fail
   refine (HCo.out r HMe.out U _ HIb.out.wr HLe.out).mono ?_
   rintro e w3 ⟨rfl,i3,f3⟩
   have HI3 := Lib.hid i3
   have HF3 := Lib.hid ((HF.out.trans HFb.out).trans f3)
   clear i3 f3 hU r0 r1 r2 r3 c0 c1 c2 c3
   go_wp2_with fail
   go_roundw
   case rel =>
    refine ⟨k + 1,by omega,by go_num,Lib.hid ?_,HF3⟩
    rw [HT.out,← List.append_assoc]
    exact HI3.out
   case measure => simp [intOf]; omega
  ·
   obtain rfl : k = n := by omega
   have HE : Hid (IwE w0 wz (bs ++ Im.listB Im.serB rs)) := Lib.hid (by
    have h := HI.out
    rw [List.take_of_length_le (Nat.le_of_eq HN.out.symm),List.append_assoc,HN.out] at h
    exact h)
   go_wp2_with fail
   go_end0
   exact ⟨rfl,HE.out,HF.out⟩
theorem Im.Pt_max (r : Pt.T) (hh : (r.cat.size ≤ 1000 ∧ Fit r.bp ∧ Fit r.net)) : (Im.partB r).length ≤ 1100 := by
 unfold Im.partB
 simp only [List.length_append]
 have := tx_74 r.cat hh.1
 have := nm_10 r.bp
 have := nm_10 r.net
 omega
set_option maxHeartbeats 1000000 in
theorem iw_listPt (rs : List Pt.T) (ao : Option Addr) (n cap : Nat) (bs : List UInt8) (w0 w : World) (hW : IwE w0 w bs) (hL : Pt.Ls w0 ao n cap rs) (hk : ∀ r ∈ rs,(r.cat.size ≤ 1000 ∧ Fit r.bp ∧ Fit r.net)) (hn : n ≤ 30) (hm : bs.length ≤ 800000) :
  Calls Tryz.prog 86 #[.pointer (some ⟨w0.heap.size,0,none⟩),.slice ao n cap,.func (.func 87) #[.pointer (some ⟨w0.heap.size,0,none⟩)] #[]] w fun e w' => e = .returned (.tuple #[]) ∧ IwE w0 w' (bs ++ Im.listB Im.partB rs) ∧ IwF w0 w w' := by
 have HL := Lib.hid hL
 have HN := Lib.hid hL.len
 have HK := Lib.hid hk
 have HM := Lib.hid hm
 have HW := Lib.hid hW
 have hcap := hL.reach
 have hfit := hL.fits
 obtain ⟨p,hp⟩ : ∃ p,w0.heap.size = p := ⟨_,rfl⟩
 have HP := Lib.hid hp
 have HNu : Hid (∀ u bs',IwE w0 u bs' → bs'.length ≤ 1000000 → Calls Tryz.prog 43 #[.pointer (some ⟨p,0,none⟩),.int .i64 (n : Int)] u fun e w' => e = .returned (.tuple #[]) ∧ IwE w0 w' (bs' ++ nm (n : Int)) ∧ IwF w0 u w') := Lib.hid fun u bs' h1 h2 => by
  rw [← HP.out]
  exact iw_num (n : Int) ⟨by omega,by omega⟩ bs' w0 u h1 h2
 have HCo : Hid (∀ (r : Pt.T),r ∈ rs → ∀ u bs',IwE w0 u bs' → bs'.length ≤ 900000 → Calls Tryz.prog 87 #[.pointer (some ⟨p,0,none⟩),.agg #[.string r.cat,.int .i64 r.bp,.int .i64 r.net,.int .i64 r.tax]] u fun e w' => e = .returned (.tuple #[]) ∧ IwE w0 w' (bs' ++ Im.partB r) ∧ IwF w0 u w') := Lib.hid fun r hr u bs' h1 h2 => by
  rw [← HP.out]
  exact iw_part r (HK.out r hr) bs' w0 u h1 h2
 rw [hp]
 clear hL hk hm hW hp
 go_enter Tryz.func86,Tryz.ntmps86
 go_wp2_with fail
 refine (HNu.out w bs HW.out (by have := HM.out; omega)).mono ?_
 rintro e w1 ⟨rfl,i1,f1⟩
 have HI1 := Lib.hid i1
 have HF1 := Lib.hid f1
 clear i1 f1
 go_wp2_with fail
 go_loopw [7,14] (fun _ j wr => ∃ k : Nat,k ≤ n ∧ j = .int .i64 k ∧ Hid (IwE w0 wr (bs ++ nm (n : Int) ++ Im.itemsB Im.partB (rs.take k))) ∧ Hid (IwF w0 w wr)) (fun _ j _ => n - (intOf j).toNat)
 case atStart => exact ⟨0,by omega,rfl,Lib.hid (by rw [List.take_zero,Im.itemsB,List.append_nil]; exact HI1.out),HF1⟩
 case round =>
  clear HI1 HF1
  rename World => wz
  obtain ⟨k,hk,rfl,HI,HF⟩ := hrel
  by_cases hlt : k < n
  ·
   obtain ⟨b,off,rfl⟩ := HL.out.at (by omega)
   have hkl : k < rs.length := HN.out ▸ hlt
   have hrow := (HL.out.row k hkl).below HI.out.bel
   have HT := Lib.hid (Im.items_take Im.partB hkl)
   have HMe := Lib.hid (List.getElem_mem hkl)
   have HLe : Hid ((bs ++ nm (n : Int) ++ Im.itemsB Im.partB (rs.take k)).length ≤ 900000) := Lib.hid (by
    have h1 := Im.items_max (B := Im.partB) (M := 1100) (l := rs.take k) fun a ha => Im.Pt_max a (HK.out a (List.mem_of_mem_take ha))
    have h2 := nm_10 (n : Int)
    have h3 := HM.out
    rw [List.length_take] at h1
    rw [List.length_append,List.length_append]
    have h4 : min k rs.length * 1100 ≤ 30 * 1100 := Nat.mul_le_mul_right _ (by omega)
    omega)
   obtain ⟨r,hr⟩ : ∃ r,rs[k] = r := ⟨_,rfl⟩
   rw [hr] at hrow HT HMe
   clear hr
   obtain ⟨r0,r1,r2,r3⟩ := hrow
   obtain ⟨hI,hF⟩ := HI.out.boxed (.cells #[.string r.cat,.int .i64 r.bp,.int .i64 r.net,.int .i64 r.tax] 134)
   obtain ⟨U,hU⟩ : ∃ U,wz.alloc (.cells #[.string r.cat,.int .i64 r.bp,.int .i64 r.net,.int .i64 r.tax] 134) = U := ⟨_,rfl⟩
   rw [hU] at hI hF
   have HIb := Lib.hid hI
   have HFb := Lib.hid hF
   have c0 := hI.cell 0
   have c1 := hI.cell 1
   have c2 := hI.cell 2
   have c3 := hI.cell 3
   simp only [List.getElem?_toArray,List.getElem?_cons_zero,List.getElem?_cons_succ] at c0 c1 c2 c3
   clear hI hF
   go_wp2_with fail
   refine (HCo.out r HMe.out U _ HIb.out.wr HLe.out).mono ?_
   rintro e w3 ⟨rfl,i3,f3⟩
   have HI3 := Lib.hid i3
   have HF3 := Lib.hid ((HF.out.trans HFb.out).trans f3)
   clear i3 f3 hU r0 r1 r2 r3 c0 c1 c2 c3
   go_wp2_with fail
   go_roundw
   case rel =>
    refine ⟨k + 1,by omega,by go_num,Lib.hid ?_,HF3⟩
    rw [HT.out,← List.append_assoc]
    exact HI3.out
   case measure => simp [intOf]; omega
  ·
   obtain rfl : k = n := by omega
   have HE : Hid (IwE w0 wz (bs ++ Im.listB Im.partB rs)) := Lib.hid (by
    have h := HI.out
    rw [List.take_of_length_le (Nat.le_of_eq HN.out.symm),List.append_assoc,HN.out] at h
    exact h)
   go_wp2_with fail
   go_end0
   exact ⟨rfl,HE.out,HF.out⟩
theorem Im.Sn_max (r : Sn.T) (hh : (Fit r.id ∧ Fit r.last ∧ Fit r.why ∧ Fit r.num ∧ Fit r.gross)) : (Im.sessB r).length ≤ 60 := by
 unfold Im.sessB
 simp only [List.length_append]
 have := nm_10 r.id
 have := nm_10 r.last
 have := nm_10 r.why
 have := nm_10 r.num
 have := nm_10 r.gross
 omega
set_option maxHeartbeats 1000000 in
theorem iw_listSn (rs : List Sn.T) (ao : Option Addr) (n cap : Nat) (bs : List UInt8) (w0 w : World) (hW : IwE w0 w bs) (hL : Sn.Ls w0 ao n cap rs) (hk : ∀ r ∈ rs,(Fit r.id ∧ Fit r.last ∧ Fit r.why ∧ Fit r.num ∧ Fit r.gross)) (hn : n ≤ 30) (hm : bs.length ≤ 800000) :
  Calls Tryz.prog 41 #[.pointer (some ⟨w0.heap.size,0,none⟩),.slice ao n cap,.func (.func 42) #[.pointer (some ⟨w0.heap.size,0,none⟩)] #[]] w fun e w' => e = .returned (.tuple #[]) ∧ IwE w0 w' (bs ++ Im.listB Im.sessB rs) ∧ IwF w0 w w' := by
 have HL := Lib.hid hL
 have HN := Lib.hid hL.len
 have HK := Lib.hid hk
 have HM := Lib.hid hm
 have HW := Lib.hid hW
 have hcap := hL.reach
 have hfit := hL.fits
 obtain ⟨p,hp⟩ : ∃ p,w0.heap.size = p := ⟨_,rfl⟩
 have HP := Lib.hid hp
 have HNu : Hid (∀ u bs',IwE w0 u bs' → bs'.length ≤ 1000000 → Calls Tryz.prog 43 #[.pointer (some ⟨p,0,none⟩),.int .i64 (n : Int)] u fun e w' => e = .returned (.tuple #[]) ∧ IwE w0 w' (bs' ++ nm (n : Int)) ∧ IwF w0 u w') := Lib.hid fun u bs' h1 h2 => by
  rw [← HP.out]
  exact iw_num (n : Int) ⟨by omega,by omega⟩ bs' w0 u h1 h2
 have HCo : Hid (∀ (r : Sn.T),r ∈ rs → ∀ u bs',IwE w0 u bs' → bs'.length ≤ 900000 → Calls Tryz.prog 42 #[.pointer (some ⟨p,0,none⟩),.agg #[.int .i64 r.id,.int .i64 r.last,.int .i64 r.why,.int .i64 r.num,.int .i64 r.gross]] u fun e w' => e = .returned (.tuple #[]) ∧ IwE w0 w' (bs' ++ Im.sessB r) ∧ IwF w0 u w') := Lib.hid fun r hr u bs' h1 h2 => by
  rw [← HP.out]
  exact iw_session r (HK.out r hr) bs' w0 u h1 h2
 rw [hp]
 clear hL hk hm hW hp
 go_enter Tryz.func41,Tryz.ntmps41
 go_wp2_with fail
 refine (HNu.out w bs HW.out (by have := HM.out; omega)).mono ?_
 rintro e w1 ⟨rfl,i1,f1⟩
 have HI1 := Lib.hid i1
 have HF1 := Lib.hid f1
 clear i1 f1
 go_wp2_with fail
 go_loopw [7,14] (fun _ j wr => ∃ k : Nat,k ≤ n ∧ j = .int .i64 k ∧ Hid (IwE w0 wr (bs ++ nm (n : Int) ++ Im.itemsB Im.sessB (rs.take k))) ∧ Hid (IwF w0 w wr)) (fun _ j _ => n - (intOf j).toNat)
 case atStart => exact ⟨0,by omega,rfl,Lib.hid (by rw [List.take_zero,Im.itemsB,List.append_nil]; exact HI1.out),HF1⟩
 case round =>
  clear HI1 HF1
  rename World => wz
  obtain ⟨k,hk,rfl,HI,HF⟩ := hrel
  by_cases hlt : k < n
  ·
   obtain ⟨b,off,rfl⟩ := HL.out.at (by omega)
   have hkl : k < rs.length := HN.out ▸ hlt
   have hrow := (HL.out.row k hkl).below HI.out.bel
   have HT := Lib.hid (Im.items_take Im.sessB hkl)
   have HMe := Lib.hid (List.getElem_mem hkl)
   have HLe : Hid ((bs ++ nm (n : Int) ++ Im.itemsB Im.sessB (rs.take k)).length ≤ 900000) := Lib.hid (by
    have h1 := Im.items_max (B := Im.sessB) (M := 60) (l := rs.take k) fun a ha => Im.Sn_max a (HK.out a (List.mem_of_mem_take ha))
    have h2 := nm_10 (n : Int)
    have h3 := HM.out
    rw [List.length_take] at h1
    rw [List.length_append,List.length_append]
    have h4 : min k rs.length * 60 ≤ 30 * 60 := Nat.mul_le_mul_right _ (by omega)
    omega)
   obtain ⟨r,hr⟩ : ∃ r,rs[k] = r := ⟨_,rfl⟩
   rw [hr] at hrow HT HMe
   clear hr
   obtain ⟨r0,r1,r2,r3,r4⟩ := hrow
   obtain ⟨hI,hF⟩ := HI.out.boxed (.cells #[.int .i64 r.id,.int .i64 r.last,.int .i64 r.why,.int .i64 r.num,.int .i64 r.gross] 73)
   obtain ⟨U,hU⟩ : ∃ U,wz.alloc (.cells #[.int .i64 r.id,.int .i64 r.last,.int .i64 r.why,.int .i64 r.num,.int .i64 r.gross] 73) = U := ⟨_,rfl⟩
   rw [hU] at hI hF
   have HIb := Lib.hid hI
   have HFb := Lib.hid hF
   have c0 := hI.cell 0
   have c1 := hI.cell 1
   have c2 := hI.cell 2
   have c3 := hI.cell 3
   have c4 := hI.cell 4
   simp only [List.getElem?_toArray,List.getElem?_cons_zero,List.getElem?_cons_succ] at c0 c1 c2 c3 c4
   clear hI hF
   go_wp2_with fail
   refine (HCo.out r HMe.out U _ HIb.out.wr HLe.out).mono ?_
   rintro e w3 ⟨rfl,i3,f3⟩
   have HI3 := Lib.hid i3
   have HF3 := Lib.hid ((HF.out.trans HFb.out).trans f3)
   clear i3 f3 hU r0 r1 r2 r3 r4 c0 c1 c2 c3 c4
   go_wp2_with fail
   go_roundw
   case rel =>
    refine ⟨k + 1,by omega,by go_num,Lib.hid ?_,HF3⟩
    rw [HT.out,← List.append_assoc]
    exact HI3.out
   case measure => simp [intOf]; omega
  ·
   obtain rfl : k = n := by omega
   have HE : Hid (IwE w0 wz (bs ++ Im.listB Im.sessB rs)) := Lib.hid (by
    have h := HI.out
    rw [List.take_of_length_le (Nat.le_of_eq HN.out.symm),List.append_assoc,HN.out] at h
    exact h)
   go_wp2_with fail
   go_end0
   exact ⟨rfl,HE.out,HF.out⟩
end Go.Proofs.YtillcleccjgocaaGreat
namespace Go.Proofs.YtillcleccjgocaaGreat
open Go.RowKit
open Mem Pk Cm
theorem tx_64 (s : ByteArray) (hs : s.size ≤ 64) : (tx s).length ≤ 74 := by
 unfold tx
 rw [List.length_append]
 have := nm_10 (s.size : Int)
 have e : (txt s).length = s.size := by unfold txt; rw [Array.length_toList]; rfl
 omega
theorem day_3 (y m d : Int) : (Cm.dayB y m d).length ≤ 30 := by
 unfold Cm.dayB
 rw [List.length_append,List.length_append]
 have := nm_10 y
 have := nm_10 m
 have := nm_10 d
 omega
def Im.PtO (x : Pt.T) : Prop := x.cat.size ≤ 64 ∧ Fit x.bp ∧ Fit x.net
structure Im.PsO (p : Bl.Ps) : Prop where
 ser : p.ser.size ≤ 64
 day : Fit p.y ∧ Fit p.m ∧ Fit p.d
 ofS : p.ofS.size ≤ 64
 ofN : Fit p.ofN
 few : p.tot.parts.length ≤ 12
 parts : ∀ x ∈ p.tot.parts,Im.PtO x
theorem Im.part_94 (x : Pt.T) (h : Im.PtO x) : (Im.partB x).length ≤ 94 := by
 unfold Im.partB
 simp only [List.length_append]
 have := tx_64 x.cat h.1
 have := nm_10 x.bp
 have := nm_10 x.net
 omega
theorem Im.parts_max (l : List Pt.T) (hl : l.length ≤ 12) (h : ∀ x ∈ l,Im.PtO x) : (Im.listB Im.partB l).length ≤ 1138 := by
 unfold Im.listB
 rw [List.length_append]
 have h1 := nm_10 (l.length : Int)
 have h2 := Im.items_max (B := Im.partB) (M := 94) (l := l) fun a ha => Im.part_94 a (h a ha)
 have h3 : l.length * 94 ≤ 12 * 94 := Nat.mul_le_mul_right _ hl
 omega
theorem Im.post_max (p : Bl.Ps) (h : Im.PsO p) : (Im.postB p).length ≤ 1400 := by
 unfold Im.postB
 simp only [List.length_append]
 have := tx_64 p.ser h.ser
 have := day_3 p.y p.m p.d
 have := tx_64 p.ofS h.ofS
 have := nm_10 p.ofN
 have := Im.parts_max p.tot.parts h.few h.parts
 omega
set_option maxHeartbeats 2000000 in
theorem iw_posted (r : Pd.T) (p : Bl.Ps) (BS : List UInt8) (w0 w : World) (hE : Bl.IsP w0 r p) (hO : Im.PsO p) (hW : IwE w0 w BS) (hm : BS.length ≤ 790000) :
  Calls Tryz.prog 40 #[.pointer (some ⟨w0.heap.size,0,none⟩),Pd.val r] w fun e w' => e = .returned (.tuple #[]) ∧ IwE w0 w' (BS ++ Im.postB p) ∧ IwF w0 w w' := by
 have HW := Lib.hid hW
 have HM := Lib.hid hm
 have HE := Lib.hid hE
 have HO := Lib.hid hO
 clear hW hm hE hO
 unfold Pd.val
 obtain ⟨hI,hF⟩ := HW.out.boxed (.cells #[.string r.ser,.int .i64 r.num,.int .i64 r.y,.int .i64 r.m,.int .i64 r.d,.int .i64 r.net,.int .i64 r.tax,.int .i64 r.gross,.slice r.parts.ao r.parts.n r.parts.cap,.string r.ofS,.int .i64 r.ofN,.bool r.back] 100)
 obtain ⟨U,hU⟩ : ∃ U,w.alloc (.cells #[.string r.ser,.int .i64 r.num,.int .i64 r.y,.int .i64 r.m,.int .i64 r.d,.int .i64 r.net,.int .i64 r.tax,.int .i64 r.gross,.slice r.parts.ao r.parts.n r.parts.cap,.string r.ofS,.int .i64 r.ofN,.bool r.back] 100) = U := ⟨_,rfl⟩
 rw [hU] at hI hF
 have HI0 := Lib.hid hI
 have HF0 := Lib.hid hF
 obtain ⟨g,hg⟩ : ∃ g,w.heap.size = g := ⟨_,rfl⟩
 rw [hg] at HI0
 have c0 := HI0.out.cell 0
 have c1 := HI0.out.cell 1
 have c2 := HI0.out.cell 2
 have c3 := HI0.out.cell 3
 have c4 := HI0.out.cell 4
 have c5 := HI0.out.cell 5
 have c6 := HI0.out.cell 6
 have c7 := HI0.out.cell 7
 have c8 := HI0.out.cell 8
 have c9 := HI0.out.cell 9
 have c10 := HI0.out.cell 10
 have c11 := HI0.out.cell 11
 simp only [List.getElem?_toArray,List.getElem?_cons_zero,List.getElem?_cons_succ] at c0 c1 c2 c3 c4 c5 c6 c7 c8 c9 c10 c11
 clear hI hF
 go_enter Tryz.func40,Tryz.ntmps40
 go_wp2_with fail
 try rw [hU]
 try rw [hg]
 clear hU hg
 refine (iw_text r.ser (by have := HO.out.ser; rw [HE.out.ser]; omega) BS w0 U (HI0.out.wr) (by have := HM.out; first | omega | (simp only [List.length_append]; omega))).mono ?_
 rintro e w1 ⟨rfl,i1,f1⟩
 have HI1 := Lib.hid (HI0.out.next i1 f1)
 have HF1 := Lib.hid (HF0.out.trans f1)
 have HL1 : Hid ((tx r.ser).length ≤ 74) := Lib.hid (tx_64 _ (by rw [HE.out.ser]; exact HO.out.ser))
 clear c0 c1 c2 c3 c4 c5 c6 c7 c8 c9 c10 c11 i1 f1
 have c0 := HI1.out.cell 0
 have c1 := HI1.out.cell 1
 have c2 := HI1.out.cell 2
 have c3 := HI1.out.cell 3
 have c4 := HI1.out.cell 4
 have c5 := HI1.out.cell 5
 have c6 := HI1.out.cell 6
 have c7 := HI1.out.cell 7
 have c8 := HI1.out.cell 8
 have c9 := HI1.out.cell 9
 have c10 := HI1.out.cell 10
 have c11 := HI1.out.cell 11
 simp only [List.getElem?_toArray,List.getElem?_cons_zero,List.getElem?_cons_succ] at c0 c1 c2 c3 c4 c5 c6 c7 c8 c9 c10 c11
 go_wp2_with fail
 refine (iw_day r.y r.m r.d (by rw [HE.out.y,HE.out.m,HE.out.d]; exact HO.out.day) (BS ++ tx r.ser) w0 w1 (HI1.out.wr) (by have := HM.out; have := HL1.out; first | omega | (simp only [List.length_append]; omega))).mono ?_
 rintro e w2 ⟨rfl,i2,f2⟩
 have HI2 := Lib.hid (HI1.out.next i2 f2)
 have HF2 := Lib.hid (HF1.out.trans f2)
 have HL2 : Hid ((Cm.dayB r.y r.m r.d).length ≤ 30) := Lib.hid (day_3 _ _ _)
 clear c0 c1 c2 c3 c4 c5 c6 c7 c8 c9 c10 c11 i2 f2
 have c0 := HI2.out.cell 0
 have c1 := HI2.out.cell 1
 have c2 := HI2.out.cell 2
 have c3 := HI2.out.cell 3
 have c4 := HI2.out.cell 4
 have c5 := HI2.out.cell 5
 have c6 := HI2.out.cell 6
 have c7 := HI2.out.cell 7
 have c8 := HI2.out.cell 8
 have c9 := HI2.out.cell 9
 have c10 := HI2.out.cell 10
 have c11 := HI2.out.cell 11
 simp only [List.getElem?_toArray,List.getElem?_cons_zero,List.getElem?_cons_succ] at c0 c1 c2 c3 c4 c5 c6 c7 c8 c9 c10 c11
 go_wp2_with fail
 refine (iw_text r.ofS (by have := HO.out.ofS; rw [HE.out.ofS]; omega) ((BS ++ tx r.ser) ++ Cm.dayB r.y r.m r.d) w0 w2 (HI2.out.wr) (by have := HM.out; have := HL1.out; have := HL2.out; first | omega | (simp only [List.length_append]; omega))).mono ?_
 rintro e w3 ⟨rfl,i3,f3⟩
 have HI3 := Lib.hid (HI2.out.next i3 f3)
 have HF3 := Lib.hid (HF2.out.trans f3)
 have HL3 : Hid ((tx r.ofS).length ≤ 74) := Lib.hid (tx_64 _ (by rw [HE.out.ofS]; exact HO.out.ofS))
 clear c0 c1 c2 c3 c4 c5 c6 c7 c8 c9 c10 c11 i3 f3
 have c0 := HI3.out.cell 0
 have c1 := HI3.out.cell 1
 have c2 := HI3.out.cell 2
 have c3 := HI3.out.cell 3
 have c4 := HI3.out.cell 4
 have c5 := HI3.out.cell 5
 have c6 := HI3.out.cell 6
 have c7 := HI3.out.cell 7
 have c8 := HI3.out.cell 8
 have c9 := HI3.out.cell 9
 have c10 := HI3.out.cell 10
 have c11 := HI3.out.cell 11
 simp only [List.getElem?_toArray,List.getElem?_cons_zero,List.getElem?_cons_succ] at c0 c1 c2 c3 c4 c5 c6 c7 c8 c9 c10 c11
 go_wp2_with fail
 refine (iw_num r.ofN (by rw [HE.out.ofN]; exact HO.out.ofN) (((BS ++ tx r.ser) ++ Cm.dayB r.y r.m r.d) ++ tx r.ofS) w0 w3 (HI3.out.wr) (by have := HM.out; have := HL1.out; have := HL2.out; have := HL3.out; first | omega | (simp only [List.length_append]; omega))).mono ?_
 rintro e w4 ⟨rfl,i4,f4⟩
 have HI4 := Lib.hid (HI3.out.next i4 f4)
 have HF4 := Lib.hid (HF3.out.trans f4)
 have HL4 : Hid ((nm r.ofN).length ≤ 10) := Lib.hid (nm_10 _)
 clear c0 c1 c2 c3 c4 c5 c6 c7 c8 c9 c10 c11 i4 f4
 have c0 := HI4.out.cell 0
 have c1 := HI4.out.cell 1
 have c2 := HI4.out.cell 2
 have c3 := HI4.out.cell 3
 have c4 := HI4.out.cell 4
 have c5 := HI4.out.cell 5
 have c6 := HI4.out.cell 6
 have c7 := HI4.out.cell 7
 have c8 := HI4.out.cell 8
 have c9 := HI4.out.cell 9
 have c10 := HI4.out.cell 10
 have c11 := HI4.out.cell 11
 simp only [List.getElem?_toArray,List.getElem?_cons_zero,List.getElem?_cons_succ] at c0 c1 c2 c3 c4 c5 c6 c7 c8 c9 c10 c11
 go_wp2_with fail
 refine (iw_listPt p.tot.parts r.parts.ao r.parts.n r.parts.cap ((((BS ++ tx r.ser) ++ Cm.dayB r.y r.m r.d) ++ tx r.ofS) ++ nm r.ofN) w0 w4 (HI4.out.wr) HE.out.parts (fun x hx => ⟨by have := (HO.out.parts x hx).1; omega,(HO.out.parts x hx).2⟩) (by have := HE.out.parts.len; have := HO.out.few; omega) (by have := HM.out; have := HL1.out; have := HL2.out; have := HL3.out; have := HL4.out; first | omega | (simp only [List.length_append]; omega))).mono ?_
 rintro e w5 ⟨rfl,i5,f5⟩
 have HI5 := Lib.hid (HI4.out.next i5 f5)
 have HF5 := Lib.hid (HF4.out.trans f5)
 have HL5 : Hid ((Im.listB Im.partB p.tot.parts).length ≤ 1138) := Lib.hid (Im.parts_max _ HO.out.few HO.out.parts)
 clear c0 c1 c2 c3 c4 c5 c6 c7 c8 c9 c10 c11 i5 f5
 go_wp2_with fail
 go_end0
 refine ⟨rfl,?_,HF5.out⟩
 have h := HI5.out.wr
 rw [HE.out.ser,HE.out.y,HE.out.m,HE.out.d,HE.out.ofS,HE.out.ofN] at h
 unfold Im.postB
 simpa only [List.append_assoc] using h
set_option maxHeartbeats 2000000 in
theorem iw_listPd (ps : List Bl.Ps) (rs : List Pd.T) (ao : Option Addr) (n cap : Nat) (bs : List UInt8) (w0 w : World) (hW : IwE w0 w bs) (hL : Pd.Ls w0 ao n cap rs) (hE : Bl.Each w0 rs ps) (hk : ∀ p ∈ ps,Im.PsO p) (hn : n ≤ 40) (hm : bs.length ≤ 700000) :
  Calls Tryz.prog 39 #[.pointer (some ⟨w0.heap.size,0,none⟩),.slice ao n cap,.func (.func 40) #[.pointer (some ⟨w0.heap.size,0,none⟩)] #[]] w fun e w' => e = .returned (.tuple #[]) ∧ IwE w0 w' (bs ++ Im.listB Im.postB ps) ∧ IwF w0 w w' := by
 have HL := Lib.hid hL
 have HN := Lib.hid hL.len
 have HE := Lib.hid hE
 have HK := Lib.hid hk
 have HM := Lib.hid hm
 have HW := Lib.hid hW
 have hcap := hL.reach
 have hfit := hL.fits
 obtain ⟨p0,hp⟩ : ∃ p0,w0.heap.size = p0 := ⟨_,rfl⟩
 have HP := Lib.hid hp
 have HNu : Hid (∀ u bs',IwE w0 u bs' → bs'.length ≤ 1000000 → Calls Tryz.prog 43 #[.pointer (some ⟨p0,0,none⟩),.int .i64 (n : Int)] u fun e w' => e = .returned (.tuple #[]) ∧ IwE w0 w' (bs' ++ nm (n : Int)) ∧ IwF w0 u w') := Lib.hid fun u bs' h1 h2 => by
  rw [← HP.out]
  exact iw_num (n : Int) ⟨by omega,by omega⟩ bs' w0 u h1 h2
 have HCo : Hid (∀ (r : Pd.T) (p : Bl.Ps),p ∈ ps → Bl.IsP w0 r p → ∀ u bs',IwE w0 u bs' → bs'.length ≤ 790000 → Calls Tryz.prog 40 #[.pointer (some ⟨p0,0,none⟩),Pd.val r] u fun e w' => e = .returned (.tuple #[]) ∧ IwE w0 w' (bs' ++ Im.postB p) ∧ IwF w0 u w') := Lib.hid fun r p hr hi u bs' h1 h2 => by
  rw [← HP.out]
  exact iw_posted r p bs' w0 u hi (HK.out p hr) h1 h2
 rw [hp]
 clear hL hk hm hW hp hE
 go_enter Tryz.func39,Tryz.ntmps39
 go_wp2_with fail
 refine (HNu.out w bs HW.out (by have := HM.out; omega)).mono ?_
 rintro e w1 ⟨rfl,i1,f1⟩
 have HI1 := Lib.hid i1
 have HF1 := Lib.hid f1
 clear i1 f1
 go_wp2_with fail
 go_loopw [7,14] (fun _ j wr => ∃ k : Nat,k ≤ n ∧ j = .int .i64 k ∧ Hid (IwE w0 wr (bs ++ nm (n : Int) ++ Im.itemsB Im.postB (ps.take k))) ∧ Hid (IwF w0 w wr)) (fun _ j _ => n - (intOf j).toNat)
 case atStart => exact ⟨0,by omega,rfl,Lib.hid (by rw [List.take_zero,Im.itemsB,List.append_nil]; exact HI1.out),HF1⟩
 case round =>
  clear HI1 HF1
  rename World => wz
  obtain ⟨k,hk,rfl,HI,HF⟩ := hrel
  by_cases hlt : k < n
  ·
   obtain ⟨b,off,rfl⟩ := HL.out.at (by omega)
   have hkl : k < rs.length := HN.out ▸ hlt
   have hkp : k < ps.length := HE.out.len ▸ hkl
   have hrow := (HL.out.row k hkl).below HI.out.bel
   have HT := Lib.hid (Im.items_take Im.postB hkp)
   have HMe := Lib.hid (List.getElem_mem hkp)
   have HIs := Lib.hid (HE.out.each k hkl)
   have HLe : Hid ((bs ++ nm (n : Int) ++ Im.itemsB Im.postB (ps.take k)).length ≤ 790000) := Lib.hid (by
    have h1 := Im.items_max (B := Im.postB) (M := 1400) (l := ps.take k) fun a ha => Im.post_max a (HK.out a (List.mem_of_mem_take ha))
    have h2 := nm_10 (n : Int)
    have h3 := HM.out
    rw [List.length_take] at h1
    rw [List.length_append,List.length_append]
    have h4 : min k ps.length * 1400 ≤ 40 * 1400 := Nat.mul_le_mul_right _ (by omega)
    omega)
   obtain ⟨r,hr⟩ : ∃ r,rs[k] = r := ⟨_,rfl⟩
   obtain ⟨q,hq⟩ : ∃ q,ps[k] = q := ⟨_,rfl⟩
   rw [hr] at hrow HIs
   rw [hq] at HT HMe HIs
   clear hr hq
   obtain ⟨hI,hF⟩ := HI.out.boxed (Pd.block r)
   have HIb : Hid (Ib w0 (Pd.box wz r) (bs ++ nm (n : Int) ++ Im.itemsB Im.postB (ps.take k)) wz.heap.size (Pd.block r)) := Lib.hid hI
   have HFb : Hid (IwF w0 wz (Pd.box wz r)) := Lib.hid hF
   have hC := Pd.c_box wz r
   clear hI hF
   go_wp2_with (first | ((with_reducible apply Pd.wpl_load hrow); rfl; rfl; rfl) | ((with_reducible apply Pd.wpl_store (r := r) (g := wz.heap.size)); rfl; rfl; rfl; rfl; rfl; rfl) | ((with_reducible apply Pd.wpl_loadC hC); rfl; rfl; rfl))
   refine (HCo.out r q HMe.out HIs.out _ _ HIb.out.wr HLe.out).mono ?_
   rintro e w3 ⟨rfl,i3,f3⟩
   have HI3 := Lib.hid i3
   have HF3 := Lib.hid ((HF.out.trans HFb.out).trans f3)
   clear i3 f3 hrow hC
   go_wp2_with fail
   go_roundw
   case rel =>
    refine ⟨k + 1,by omega,by go_num,Lib.hid ?_,HF3⟩
    rw [HT.out,← List.append_assoc]
    exact HI3.out
   case measure => simp [intOf]; omega
  ·
   obtain rfl : k = n := by omega
   have HR : Hid (IwE w0 wz (bs ++ Im.listB Im.postB ps)) := Lib.hid (by
    have h := HI.out
    have e : k = ps.length := by have := HN.out; have := HE.out.len; omega
    rw [List.take_of_length_le (Nat.le_of_eq e.symm),List.append_assoc,e] at h
    exact h)
   go_wp2_with fail
   go_end0
   exact ⟨rfl,HR.out,HF.out⟩
structure Im.StO (s : Bl.St) : Prop where
 tab : s.tab.length ≤ 24 ∧ ∀ r ∈ s.tab,r.cat.size ≤ 64 ∧ Fit r.y ∧ Fit r.m ∧ Fit r.d ∧ Fit r.bp
 ser : s.ser.length ≤ 8 ∧ ∀ r ∈ s.ser,r.name.size ≤ 64 ∧ Fit r.limit
 post : s.post.length ≤ 40 ∧ ∀ p ∈ s.post,Im.PsO p
 sess : s.sess.length ≤ 8 ∧ ∀ x ∈ s.sess,Fit x.id ∧ Fit x.last ∧ Fit x.why ∧ Fit x.num ∧ Fit x.gross
 next : Fit s.next
theorem Im.list_max {α : Type} {B : α → List UInt8} {M N : Nat} {l : List α} (hl : l.length ≤ N) (h : ∀ a ∈ l,(B a).length ≤ M) : (Im.listB B l).length ≤ 10 + N * M := by
 unfold Im.listB
 rw [List.length_append]
 have h1 := nm_10 (l.length : Int)
 have h2 := Im.items_max h
 have h3 : l.length * M ≤ N * M := Nat.mul_le_mul_right _ hl
 omega
set_option maxHeartbeats 2000000 in
theorem iw_state (h : Bl.Sv) (s : Bl.St) (BS : List UInt8) (w0 w : World) (hL : Bl.Lies w0 h s) (hO : Im.StO s) (hW : IwE w0 w BS) (hm : BS.length ≤ 100000) :
  Calls Tryz.prog 15 #[.pointer (some ⟨w0.heap.size,0,none⟩),h.val] w fun e w' => e = .returned (.tuple #[]) ∧ IwE w0 w' (BS ++ Im.stB s) ∧ IwF w0 w w' := by
 have HW := Lib.hid hW
 have HM := Lib.hid hm
 have HLs := Lib.hid hL
 have HO := Lib.hid hO
 have HRs := Lib.hid hL.post
 clear hW hm hL hO
 unfold Bl.Sv.val Bl.sl
 obtain ⟨hI,hF⟩ := HW.out.boxed (.cells #[.slice h.tab.ao h.tab.n h.tab.cap,.slice h.ser.ao h.ser.n h.ser.cap,.slice h.post.ao h.post.n h.post.cap,.slice h.book.ao h.book.n h.book.cap,.slice h.sess.ao h.sess.n h.sess.cap,.int .i64 h.next] 30)
 obtain ⟨U,hU⟩ : ∃ U,w.alloc (.cells #[.slice h.tab.ao h.tab.n h.tab.cap,.slice h.ser.ao h.ser.n h.ser.cap,.slice h.post.ao h.post.n h.post.cap,.slice h.book.ao h.book.n h.book.cap,.slice h.sess.ao h.sess.n h.sess.cap,.int .i64 h.next] 30) = U := ⟨_,rfl⟩
 rw [hU] at hI hF
 have HI0 := Lib.hid hI
 have HF0 := Lib.hid hF
 obtain ⟨g,hg⟩ : ∃ g,w.heap.size = g := ⟨_,rfl⟩
 rw [hg] at HI0
 have c0 := HI0.out.cell 0
 have c1 := HI0.out.cell 1
 have c2 := HI0.out.cell 2
 have c3 := HI0.out.cell 3
 have c4 := HI0.out.cell 4
 have c5 := HI0.out.cell 5
 simp only [List.getElem?_toArray,List.getElem?_cons_zero,List.getElem?_cons_succ] at c0 c1 c2 c3 c4 c5
 clear hI hF
 go_enter Tryz.func15,Tryz.ntmps15
 go_wp2_with fail
 try rw [hU]
 try rw [hg]
 clear hU hg
 refine (iw_listRt s.tab h.tab.ao h.tab.n h.tab.cap BS w0 U (HI0.out.wr) HLs.out.tab (fun r hr => ⟨by have := (HO.out.tab.2 r hr).1; omega,(HO.out.tab.2 r hr).2⟩) (by have := HLs.out.tab.len; have := HO.out.tab.1; omega) (by have := HM.out; first | omega | (simp only [List.length_append]; omega))).mono ?_
 rintro e w1 ⟨rfl,i1,f1⟩
 have HI1 := Lib.hid (HI0.out.next i1 f1)
 have HF1 := Lib.hid (HF0.out.trans f1)
 have HL1 : Hid ((Im.listB Im.rateB s.tab).length ≤ 60000) := Lib.hid (Nat.le_trans (Im.list_max (N := 24) (M := 2200) HO.out.tab.1 fun r hr => Im.Rt_max r ⟨by have := (HO.out.tab.2 r hr).1; omega,(HO.out.tab.2 r hr).2⟩) (by omega))
 clear c0 c1 c2 c3 c4 c5 i1 f1
 have c0 := HI1.out.cell 0
 have c1 := HI1.out.cell 1
 have c2 := HI1.out.cell 2
 have c3 := HI1.out.cell 3
 have c4 := HI1.out.cell 4
 have c5 := HI1.out.cell 5
 simp only [List.getElem?_toArray,List.getElem?_cons_zero,List.getElem?_cons_succ] at c0 c1 c2 c3 c4 c5
 go_wp2_with fail
 refine (iw_listSr s.ser h.ser.ao h.ser.n h.ser.cap (BS ++ Im.listB Im.rateB s.tab) w0 w1 (HI1.out.wr) HLs.out.ser (fun r hr => ⟨by have := (HO.out.ser.2 r hr).1; omega,(HO.out.ser.2 r hr).2⟩) (by have := HLs.out.ser.len; have := HO.out.ser.1; omega) (by have := HM.out; have := HL1.out; first | omega | (simp only [List.length_append]; omega))).mono ?_
 rintro e w2 ⟨rfl,i2,f2⟩
 have HI2 := Lib.hid (HI1.out.next i2 f2)
 have HF2 := Lib.hid (HF1.out.trans f2)
 have HL2 : Hid ((Im.listB Im.serB s.ser).length ≤ 10000) := Lib.hid (Nat.le_trans (Im.list_max (N := 8) (M := 1100) HO.out.ser.1 fun r hr => Im.Sr_max r ⟨by have := (HO.out.ser.2 r hr).1; omega,(HO.out.ser.2 r hr).2⟩) (by omega))
 clear c0 c1 c2 c3 c4 c5 i2 f2
 have c0 := HI2.out.cell 0
 have c1 := HI2.out.cell 1
 have c2 := HI2.out.cell 2
 have c3 := HI2.out.cell 3
 have c4 := HI2.out.cell 4
 have c5 := HI2.out.cell 5
 simp only [List.getElem?_toArray,List.getElem?_cons_zero,List.getElem?_cons_succ] at c0 c1 c2 c3 c4 c5
 go_wp2_with fail
 refine (iw_listPd s.post HRs.out.choose h.post.ao h.post.n h.post.cap ((BS ++ Im.listB Im.rateB s.tab) ++ Im.listB Im.serB s.ser) w0 w2 (HI2.out.wr) HRs.out.choose_spec.1 HRs.out.choose_spec.2 HO.out.post.2 (by have := HRs.out.choose_spec.1.len; have := HRs.out.choose_spec.2.len; have := HO.out.post.1; omega) (by have := HM.out; have := HL1.out; have := HL2.out; first | omega | (simp only [List.length_append]; omega))).mono ?_
 rintro e w3 ⟨rfl,i3,f3⟩
 have HI3 := Lib.hid (HI2.out.next i3 f3)
 have HF3 := Lib.hid (HF2.out.trans f3)
 have HL3 : Hid ((Im.listB Im.postB s.post).length ≤ 60000) := Lib.hid (Nat.le_trans (Im.list_max (N := 40) (M := 1400) HO.out.post.1 fun p hp => Im.post_max p (HO.out.post.2 p hp)) (by omega))
 clear c0 c1 c2 c3 c4 c5 i3 f3
 have c0 := HI3.out.cell 0
 have c1 := HI3.out.cell 1
 have c2 := HI3.out.cell 2
 have c3 := HI3.out.cell 3
 have c4 := HI3.out.cell 4
 have c5 := HI3.out.cell 5
 simp only [List.getElem?_toArray,List.getElem?_cons_zero,List.getElem?_cons_succ] at c0 c1 c2 c3 c4 c5
 go_wp2_with fail
 refine (iw_listSn s.sess h.sess.ao h.sess.n h.sess.cap (((BS ++ Im.listB Im.rateB s.tab) ++ Im.listB Im.serB s.ser) ++ Im.listB Im.postB s.post) w0 w3 (HI3.out.wr) HLs.out.sess HO.out.sess.2 (by have := HLs.out.sess.len; have := HO.out.sess.1; omega) (by have := HM.out; have := HL1.out; have := HL2.out; have := HL3.out; first | omega | (simp only [List.length_append]; omega))).mono ?_
 rintro e w4 ⟨rfl,i4,f4⟩
 have HI4 := Lib.hid (HI3.out.next i4 f4)
 have HF4 := Lib.hid (HF3.out.trans f4)
 have HL4 : Hid ((Im.listB Im.sessB s.sess).length ≤ 1000) := Lib.hid (Nat.le_trans (Im.list_max (N := 8) (M := 60) HO.out.sess.1 fun x hx => Im.Sn_max x (HO.out.sess.2 x hx)) (by omega))
 clear c0 c1 c2 c3 c4 c5 i4 f4
 have c0 := HI4.out.cell 0
 have c1 := HI4.out.cell 1
 have c2 := HI4.out.cell 2
 have c3 := HI4.out.cell 3
 have c4 := HI4.out.cell 4
 have c5 := HI4.out.cell 5
 simp only [List.getElem?_toArray,List.getElem?_cons_zero,List.getElem?_cons_succ] at c0 c1 c2 c3 c4 c5
 go_wp2_with fail
 refine (iw_num h.next (by rw [HLs.out.next]; exact HO.out.next) ((((BS ++ Im.listB Im.rateB s.tab) ++ Im.listB Im.serB s.ser) ++ Im.listB Im.postB s.post) ++ Im.listB Im.sessB s.sess) w0 w4 (HI4.out.wr) (by have := HM.out; have := HL1.out; have := HL2.out; have := HL3.out; have := HL4.out; first | omega | (simp only [List.length_append]; omega))).mono ?_
 rintro e w5 ⟨rfl,i5,f5⟩
 have HI5 := Lib.hid (HI4.out.next i5 f5)
 have HF5 := Lib.hid (HF4.out.trans f5)
 have HL5 : Hid ((nm h.next).length ≤ 10) := Lib.hid (nm_10 _)
 clear c0 c1 c2 c3 c4 c5 i5 f5
 go_wp2_with fail
 go_end0
 refine ⟨rfl,?_,HF5.out⟩
 have h := HI5.out.wr
 rw [HLs.out.next] at h
 unfold Im.stB
 simpa only [List.append_assoc] using h
end Go.Proofs.YtillcleccjgocaaGreat
namespace Go.Proofs.YtillcleccjgocaaGreat
open Go.RowKit
open Mem
open Go.Sort (grow)
set_option maxHeartbeats 8000000 in
theorem bil_right_any (s : Bl.St) (h : Bl.Sv) (w0 w : World) (hw : Below w0.heap.size w0 w) (hL : Bl.Lies w h s) :
  Calls Tryz.prog 14 #[h.val] w (Bl.YesE w0 (Bl.Right s)) := by
 have HW := Lib.hid hw
 have HL := Lib.hid hL
 have HX := Lib.hid hL.next
 obtain ⟨rs,hP,hE⟩ := hL.post
 have HP := Lib.hid hP
 have HE := Lib.hid hE
 have HN : Hid (h.post.n = s.post.length) := Lib.hid (by have := hP.len; have := hE.len; omega)
 have hcap := hP.reach
 have hfit := hP.fits
 obtain ⟨U,hU⟩ : ∃ U,w.alloc (.cells #[.slice h.tab.ao h.tab.n h.tab.cap,.slice h.ser.ao h.ser.n h.ser.cap,.slice h.post.ao h.post.n h.post.cap,.slice h.book.ao h.book.n h.book.cap,.slice h.sess.ao h.sess.n h.sess.cap,.int .i64 h.next] 30) = U := ⟨_,rfl⟩
 obtain ⟨hB,k0,hs⟩ := Bl.al1 w (.cells #[.slice h.tab.ao h.tab.n h.tab.cap,.slice h.ser.ao h.ser.n h.ser.cap,.slice h.post.ao h.post.n h.post.cap,.slice h.book.ao h.book.n h.book.cap,.slice h.sess.ao h.sess.n h.sess.cap,.int .i64 h.next] 30)
 rw [hU] at hB k0 hs
 have hA : Bl.At U w.heap.size h := k0
 have HA0 := Lib.hid hA
 have HB0 := Lib.hid hB
 obtain ⟨x0,x1,x2,x3,x4,x5⟩ := hA.cells
 clear k0 hL hP hE hw hB hs hA
 unfold Bl.Sv.val Bl.sl
 go_enter Tryz.func14,Tryz.ntmps14
 go_wp2_with fail
 clear hU
 refine (vat_right s.tab h.tab.ao h.tab.n h.tab.cap U U (Below.refl _ _) (HL.out.tab.below HB0.out)).mono ?_
 rintro e w1 ⟨rfl,b1⟩
 have HB1 := Lib.hid (bchain HB0.out b1)
 have HA1 := Lib.hid (HA0.out.below b1)
 clear b1 x0 x1 x2 x3 x4 x5
 cases hq : Vt.tableB s.tab
 ·
  have HNo : Hid (¬ Bl.Right s) := Lib.hid fun z => by have l := ((Bl.landed_iff s).2 z).tab; rw [hq] at l; cases l
  clear hq
  go_wp2_with fail
  go_ret
  exact ⟨.inr ⟨HNo.out,rfl⟩,bchain HW.out HB1.out⟩
 ·
  have HQ1 := Lib.hid hq
  clear hq
  obtain ⟨x0,x1,x2,x3,x4,x5⟩ := HA1.out.cells
  go_wp2_with fail
  refine (ser_right s.ser h.ser.ao h.ser.n h.ser.cap w1 w1 (Below.refl _ _) (HL.out.ser.below HB1.out)).mono ?_
  rintro e w2 ⟨rfl,b2⟩
  have HB2 := Lib.hid (bchain HB1.out b2)
  have HA2 := Lib.hid (HA1.out.below b2)
  clear b2 x0 x1 x2 x3 x4 x5
  cases hq : Se.rightB s.ser
  ·
   have HNo : Hid (¬ Bl.Right s) := Lib.hid fun z => by have l := ((Bl.landed_iff s).2 z).ser; rw [hq] at l; cases l
   clear hq
   go_wp2_with fail
   go_ret
   exact ⟨.inr ⟨HNo.out,rfl⟩,bchain HW.out HB2.out⟩
  ·
   have HQ2 := Lib.hid hq
   clear hq
   obtain ⟨x0,x1,x2,x3,x4,x5⟩ := HA2.out.cells
   go_wp2_with fail
   refine (bil_attended s.sess h.next h.sess.ao h.sess.n h.sess.cap w2 w2 (Below.refl _ _) (HL.out.sess.below HB2.out)).mono ?_
   rintro e w3 ⟨hcase,b3⟩
   have HB3 := Lib.hid (bchain HB2.out b3)
   have HA3 := Lib.hid (HA2.out.below b3)
   clear b3 x0 x1 x2 x3 x4 x5
   rcases hcase with ⟨hyes,rfl⟩ | ⟨hno,rfl⟩
   ·
    have HQ3 := Lib.hid hyes
    clear hyes
    obtain ⟨x0,x1,x2,x3,x4,x5⟩ := HA3.out.cells
    by_cases h40 : h.post.n ≤ 40
    ·
     have d4 : decide ((h.post.n : Int) ≤ 40) = true := decide_eq_true (by omega)
     have H40 := Lib.hid h40
     clear h40
     go_wp2_with fail
     clear d4
     refine (bil_numbered s.post rs s.ser h.post.ao h.ser.ao h.post.n h.post.cap h.ser.n h.ser.cap w3 w3 (Below.refl _ _) (HP.out.below HB3.out) (HE.out.below HB3.out) (HL.out.ser.below HB3.out) HQ2.out (by have := H40.out; omega)).mono ?_
     rintro e w4 ⟨hcase,b4⟩
     have HB4 := Lib.hid (bchain HB3.out b4)
     have HA4 := Lib.hid (HA3.out.below b4)
     clear b4 x0 x1 x2 x3 x4 x5
     rcases hcase with ⟨hyes,rfl⟩ | ⟨hno,rfl⟩
     ·
      have HQ4 := Lib.hid hyes
      clear hyes
      obtain ⟨x0,x1,x2,x3,x4,x5⟩ := HA4.out.cells
      go_wp2_with fail
      refine (bil_reckoned s.post rs h.post.ao h.post.n h.post.cap w4 w4 (Below.refl _ _) (HP.out.below HB4.out) (HE.out.below HB4.out)).mono ?_
      rintro e w5 ⟨hcase,b5⟩
      have HB5 := Lib.hid (bchain HB4.out b5)
      have HA5 := Lib.hid (HA4.out.below b5)
      clear b5 x0 x1 x2 x3 x4 x5
      rcases hcase with ⟨hyes,rfl⟩ | ⟨hno,rfl⟩
      ·
       have HQ5 := Lib.hid hyes
       clear hyes
       obtain ⟨x0,x1,x2,x3,x4,x5⟩ := HA5.out.cells
       go_wp2_with fail
       refine (bil_credited s.post rs h.post.ao h.post.n h.post.cap w5 w5 (Below.refl _ _) (HP.out.below HB5.out) (HE.out.below HB5.out) HQ5.out).mono ?_
       rintro e w6 ⟨hcase,b6⟩
       have HB6 := Lib.hid (bchain HB5.out b6)
       have HA6 := Lib.hid (HA5.out.below b6)
       clear b6 x0 x1 x2 x3 x4 x5
       rcases hcase with ⟨hyes,rfl⟩ | ⟨hno,rfl⟩
       ·
        have HQ6 := Lib.hid hyes
        clear hyes
        obtain ⟨x0,x1,x2,x3,x4,x5⟩ := HA6.out.cells
        go_wp2_with fail
        refine (bil_booked s.post s.book rs h.post.ao h.book.ao h.post.n h.post.cap h.book.n h.book.cap w6 w6 (Below.refl _ _) (HP.out.below HB6.out) (HE.out.below HB6.out) (HL.out.book.below HB6.out) HQ5.out H40.out).mono ?_
        rintro e w7 ⟨hcase,b7⟩
        have HB7 := Lib.hid (bchain HB6.out b7)
        have HA7 := Lib.hid (HA6.out.below b7)
        clear b7 x0 x1 x2 x3 x4 x5
        rcases hcase with ⟨hyes,rfl⟩ | ⟨hno,rfl⟩
        ·
         have HQ7 := Lib.hid hyes
         clear hyes
         have HYes : Hid (Bl.Right s) := Lib.hid ((Bl.landed_iff s).1 (by have a3 := HQ3.out; rw [HX.out] at a3; exact ⟨HQ1.out,HQ2.out,a3.1,a3.2.1,a3.2.2,by have := H40.out; have := HN.out; omega,HQ4.out,HQ5.out,HQ6.out,HQ7.out⟩))
         go_wp2_with fail
         go_ret
         exact ⟨.inl ⟨HYes.out,rfl⟩,bchain HW.out HB7.out⟩
        ·
         have HNo : Hid (¬ Bl.Right s) := Lib.hid fun z => hno ((Bl.landed_iff s).2 z).book
         clear hno
         go_wp2_with fail
         go_ret
         exact ⟨.inr ⟨HNo.out,rfl⟩,bchain HW.out HB7.out⟩
       ·
        have HNo : Hid (¬ Bl.Right s) := Lib.hid fun z => hno ((Bl.landed_iff s).2 z).cred
        clear hno
        go_wp2_with fail
        go_ret
        exact ⟨.inr ⟨HNo.out,rfl⟩,bchain HW.out HB6.out⟩
      ·
       have HNo : Hid (¬ Bl.Right s) := Lib.hid fun z => hno ((Bl.landed_iff s).2 z).each
       clear hno
       go_wp2_with fail
       go_ret
       exact ⟨.inr ⟨HNo.out,rfl⟩,bchain HW.out HB5.out⟩
     ·
      have HNo : Hid (¬ Bl.Right s) := Lib.hid fun z => hno ((Bl.landed_iff s).2 z).num
      clear hno
      go_wp2_with fail
      go_ret
      exact ⟨.inr ⟨HNo.out,rfl⟩,bchain HW.out HB4.out⟩
    ·
     have d4 : decide ((h.post.n : Int) ≤ 40) = false := decide_eq_false (by omega)
     have HNo : Hid (¬ Bl.Right s) := Lib.hid fun z => h40 (by have l := ((Bl.landed_iff s).2 z).few; have := HN.out; omega)
     clear h40
     go_wp2_with fail
     go_ret
     exact ⟨.inr ⟨HNo.out,rfl⟩,bchain HW.out HB3.out⟩
   ·
    have HNo : Hid (¬ Bl.Right s) := Lib.hid fun z => hno (by have l := (Bl.landed_iff s).2 z; rw [HX.out]; exact ⟨l.next,l.sess,l.ids⟩)
    clear hno
    go_wp2_with fail
    go_ret
    exact ⟨.inr ⟨HNo.out,rfl⟩,bchain HW.out HB3.out⟩
end Go.Proofs.YtillcleccjgocaaGreat
namespace Go.Proofs.YtillcleccjgocaaGreat
open Go.RowKit
open Mem Pk Cm
theorem Im.ok_of {w : World} {h : Bl.Sv} {s : Bl.St} (hR : Bl.Right s) (hL : Bl.Lies w h s) : Im.StO s := by
 have h1 : s.tab.length ≤ 24 ∧ ∀ r ∈ s.tab,Vt.rowE r = 0 := by
  have := hR.tab
  unfold Vt.tableB at this
  rw [Bool.and_eq_true] at this
  exact ⟨of_decide_eq_true this.1,((Vt.okAll_iff _ _).1 this.2).1⟩
 have h2 := (Se.right_iff _).1 hR.ser
 have h3 : s.sess.length ≤ 8 := by
  have := hR.sess
  unfold Sp.rightB at this
  rw [Bool.and_eq_true] at this
  exact of_decide_eq_true this.1
 obtain ⟨rs,hP,hE⟩ := hL.post
 have hser : ∀ p ∈ s.post,p.ser.size ≤ 24 := fun p hp => by
  obtain ⟨r,hr,e⟩ := Se.ix_mem.1 (hR.has p hp)
  rw [← e]
  exact Im.name_24 (Se.sound_iff.1 (h2.2.1 r hr)).1
 refine ⟨⟨h1.1,fun r hr => ?_⟩,⟨h2.1,fun r hr => ?_⟩,⟨hR.few,fun p hp => ?_⟩,⟨h3,fun x hx => hL.sess.short x hx⟩,hL.fit⟩
 ·
  have a := h1.2 r hr
  have b := hL.tab.short r hr
  have c : r.cat.size ≤ 24 := Im.name_24 (Vt.rowE_0.1 a).1
  exact ⟨by omega,b.2⟩
 ·
  have a := Se.sound_iff.1 (h2.2.1 r hr)
  have b := hL.ser.short r hr
  exact ⟨by have := Im.name_24 a.1; omega,b.2.2⟩
 ·
  obtain ⟨i,hi,e⟩ := List.getElem_of_mem hp
  have hir : i < rs.length := hE.len ▸ hi
  have hs := hP.short _ (List.getElem_mem hir)
  have he := hE.each i hir
  rw [e] at he
  have hT := hR.tot p hp
  refine ⟨by have := hser p hp; omega,⟨he.y ▸ hs.2.2.1,he.m ▸ hs.2.2.2.1,he.d ▸ hs.2.2.2.2.1⟩,?_,he.ofN ▸ hs.2.2.2.2.2.2.2.2.2,hT.few,fun x hx => ?_⟩
  ·
   by_cases o : Bl.Own p
   ·
    rw [o.1]
    decide
   ·
    have hl := (hR.link i hi).of (by rw [e]; exact o)
    obtain ⟨_,k,hk,ht,_⟩ := hl
    rw [e] at ht
    rw [ht.1]
    have := hser _ (List.getElem_mem (show k < s.post.length by omega))
    omega
  ·
   have b := he.parts.short x hx
   exact ⟨by have := Im.name_24 (hT.each x hx).1; omega,b.2.1,b.2.2.1⟩
def Im.PutE (w0 w : World) (s : Bl.St) (e : Ending) (w' : World) : Prop := (Bl.Right s ∧ (∃ ao n cap,e = .returned (.slice ao n cap) ∧ By.Ls w' ao n cap (Im.stB s) ∧ ∀ ad,ao = some ad → ∃ g,ad = ⟨g,0,none⟩ ∧ w.heap.size ≤ g) ∨ ¬ Bl.Right s ∧ e = .returned (.slice none 0 0)) ∧ Below w0.heap.size w0 w'
set_option maxHeartbeats 2000000 in
theorem img_put (h : Bl.Sv) (s : Bl.St) (w0 w : World) (hw : Below w0.heap.size w0 w) (hL : Bl.Lies w h s) : Calls Tryz.prog 6 #[h.val] w (Im.PutE w0 w s) := by
 have HW := Lib.hid hw
 have HL := Lib.hid hL
 obtain ⟨U,hU⟩ : ∃ U,w.alloc (.cells #[.slice h.tab.ao h.tab.n h.tab.cap,.slice h.ser.ao h.ser.n h.ser.cap,.slice h.post.ao h.post.n h.post.cap,.slice h.book.ao h.book.n h.book.cap,.slice h.sess.ao h.sess.n h.sess.cap,.int .i64 h.next] 30) = U := ⟨_,rfl⟩
 obtain ⟨hB,k0,hs⟩ := Bl.al1 w (.cells #[.slice h.tab.ao h.tab.n h.tab.cap,.slice h.ser.ao h.ser.n h.ser.cap,.slice h.post.ao h.post.n h.post.cap,.slice h.book.ao h.book.n h.book.cap,.slice h.sess.ao h.sess.n h.sess.cap,.int .i64 h.next] 30)
 rw [hU] at hB k0 hs
 have hA : Bl.At U w.heap.size h := k0
 have HA := Lib.hid hA
 have HB := Lib.hid hB
 clear k0 hs hB hw hL
 unfold Bl.Sv.val Bl.sl
 go_enter Tryz.func6,Tryz.ntmps6
 go_wp2_with (first | ((with_reducible apply Bl.wpl_load hA); rfl; rfl; rfl))
 clear hU hA
 refine (bil_right_any s h U U (Below.refl _ _) (HL.out.below HB.out)).mono ?_
 rintro e w1 ⟨hcase,b1⟩
 have HB1 := Lib.hid (bchain HB.out b1)
 have HA1 := Lib.hid (HA.out.below b1)
 clear b1
 rcases hcase with ⟨hR,rfl⟩ | ⟨hN,rfl⟩
 ·
  have HR := Lib.hid hR
  clear hR
  have hbw : Below w1.heap.size w1 (w1.alloc (.cells #[.slice none 0 0] 51)) := (Below.refl _ _).alloc (Nat.le_refl _) _
  have HI : Hid (IwE w1 (w1.alloc (.cells #[.slice none 0 0] 51)) []) := Lib.hid ⟨none,0,0,hbw,heap_alloc_new w1 _,By.own_nil _ _⟩
  obtain ⟨W,hW⟩ : ∃ W,w1.alloc (.cells #[.slice none 0 0] 51) = W := ⟨_,rfl⟩
  rw [hW] at HI hbw
  have hAW := HA1.out.below hbw
  have HBW := Lib.hid (bchain HB1.out hbw)
  clear hbw
  go_wp2_with (first | ((with_reducible apply Bl.wpl_load hAW); rfl; rfl; rfl))
  clear hW hAW
  refine (iw_state h s [] w1 W (HL.out.below HB1.out) (Im.ok_of HR.out HL.out) HI.out (by simp)).mono ?_
  rintro e w2 ⟨rfl,⟨ao,n,cap,i2⟩,_⟩
  rw [List.nil_append] at i2
  have HI2 := Lib.hid i2
  have c2 := i2.cell
  clear i2
  go_wp2_with fail
  go_ret
  obtain ⟨ao',cap',e1,l1,g1⟩ := By.own_ls HI2.out.own
  simp only [Value.slice.injEq] at e1
  obtain ⟨rfl,e2,rfl⟩ := e1
  rw [← e2] at l1
  refine ⟨.inl ⟨HR.out,ao,n,cap,rfl,l1,fun ad q => ?_⟩,bchain HW.out (bchain HB1.out HI2.out.bel)⟩
  obtain ⟨g,h1,h2⟩ := g1 ad q
  exact ⟨g,h1,by have := HB1.out.size; omega⟩
 ·
  have HNo := Lib.hid hN
  clear hN
  go_wp2_with fail
  go_ret
  exact ⟨.inr ⟨HNo.out,rfl⟩,bchain HW.out HB1.out⟩
end Go.Proofs.YtillcleccjgocaaGreat
namespace Go.Proofs.YtillcleccjgocaaGreat.Rp
open Go.RowKit
open Mem
def zero : T := ⟨0,0,0⟩
end Go.Proofs.YtillcleccjgocaaGreat.Rp
namespace Go.Proofs.YtillcleccjgocaaGreat
open Go.RowKit
open Mem
open Go.Sort (grow)
namespace Bl
theorem resultsP {fn : Func} {p q : Tmp} (hf : fn.results = #[.cell p 30,.tmp q]) {tmps : Array Value} {w : World} {g : Nat} {h : Sv} {v : Value} (hp : tmps.getD p undef = .pointer (some ⟨g,0,none⟩)) (hq : tmps.getD q undef = v) (hA : At w g h) : (results fn tmps).run Tryz.prog w = .ok (.tuple #[h.val,v]) w := by
 have hp' : tmps[p]?.getD undef = .pointer (some ⟨g,0,none⟩) := by simpa using hp
 have hq' : tmps[q]?.getD undef = v := by simpa using hq
 have e1 := run_loadVar_row (P := Tryz.prog) w g 30 30 (rv h).toArray (0,0) _ hA Tryz.underlying30 rfl (by rw [info]; rfl)
 simp [results,hf,hp',hq',asAddr,e1]
 rfl
section
variable {w u v : World} {g : Nat} {t t' : St} {hc h' : Sv} {rs : List Rp.T}
end
end Bl
end Go.Proofs.YtillcleccjgocaaGreat
namespace Go.Proofs.YtillcleccjgocaaGreat
open Go.RowKit
open Mem Pk Cm
open Go.Sort (grow)
set_option maxHeartbeats 2000000 in
theorem pack_read2 (bs : List UInt8) (ao : Option Addr) (m cap : Nat) (w : World) (hL : By.Ls w ao m cap bs) (hm : m ≤ 140737488355328) :
  Calls Tryz.prog 16 #[.slice ao m cap] w fun e w' => (∃ p bo,e = .returned (.pointer (some ⟨p,0,none⟩)) ∧ w.heap.size ≤ p ∧ Rd w' p bo m m bs ⟨0,0⟩) ∧ Below w.heap.size w w' := by
 have hmk := By.make m (by omega)
 have hb0 := By.block_made w m
 have hB1 := (Below.refl w.heap.size w).alloc (Nat.le_refl _) (.cells (By.zeros m) 5)
 obtain ⟨W1,hcp,hblk,hbel,hsz⟩ := By.copy (w.alloc (.cells (By.zeros m) 5)) w.heap.size 0 [] [] m ao m cap bs (by simpa using hb0) rfl hL.len (hL.below hB1).seg (some ⟨w.heap.size,0,none⟩) (fun _ => rfl)
 rw [List.length_nil,Nat.add_zero] at hcp
 rw [List.nil_append,List.append_nil] at hblk
 have HB1 := Lib.hid (hbel _ _ hB1 (Nat.le_refl _))
 have HBk := Lib.hid hblk
 have HLen := Lib.hid hL.len
 have hcap := hL.reach
 have hs1 : W1.heap.size = w.heap.size + 1 := by rw [hsz]; simp
 clear hL hb0 hblk hbel hB1 hsz
 go_enter Tryz.func16,Tryz.ntmps16
 go_wp2
 go_ret
 have bx : Below W1.heap.size W1 (W1.alloc (.cells #[.slice (some ⟨w.heap.size,0,none⟩) m m,.int .i64 0,.int .i64 0] 106)) := (Below.refl _ _).alloc (Nat.le_refl _) _
 have hls := (HBk.out.ls (by rw [← HLen.out]; omega)).below bx
 rw [← HLen.out] at hls
 refine ⟨⟨w.heap.size + 1,some ⟨w.heap.size,0,none⟩,rfl,by omega,?_⟩,bchain HB1.out bx⟩
 rw [← hs1]
 exact ⟨by simp [go_sem],by simp [go_sem],by simp [go_sem],fun o => by simp [go_sem],hls,fun b off e => by cases e; omega,by show 0 ≤ m; omega⟩
theorem UpdQ.ofUpd {w u : World} {p : Nat} (h : Upd w p u) : UpdQ (fun b => b = p) w u := ⟨h.size,fun b hb hq => h.block b hb hq,fun w0 a c => h.below w0 a (c p rfl)⟩
def Im.fin (bs : List UInt8) : Int := (rEnd bs (Im.rState bs ⟨0,0⟩).2).1
def Im.Told (bs : List UInt8) (t : Bl.St) : Prop := Im.fin bs = 0 ∧ Im.fill (Im.rState bs ⟨0,0⟩).1 = some t ∧ Bl.Right t
def Im.getE (bs : List UInt8) : Int := if Im.fin bs = 0 then 4 else Im.fin bs
def Im.GetE (w0 w : World) (bs : List UInt8) (e : Ending) (w' : World) : Prop :=
 ((∃ h t,e = .returned (.tuple #[Bl.Sv.val h,.int .i64 0]) ∧ Im.Told bs t ∧ Bl.Lp (fun b => w.heap.size < b) w' h t) ∨ (e = .returned (.tuple #[Bl.zsv.val,.int .i64 (Im.getE bs)]) ∧ Im.getE bs ≠ 0 ∧ ∀ t,¬ Im.Told bs t)) ∧ Below w0.heap.size w0 w'
set_option maxHeartbeats 4000000 in
theorem img_get (bs : List UInt8) (ao : Option Addr) (m cap : Nat) (w0 w : World) (hw : Below w0.heap.size w0 w) (hL : By.Ls w ao m cap bs) (hm : m ≤ 140737488355328) :
  Calls Tryz.prog 8 #[.slice ao m cap] w (Im.GetE w0 w bs) := by
 have HW := Lib.hid hw
 have HL := Lib.hid hL
 obtain ⟨U,hU⟩ : ∃ U,w.alloc (.cells #[.slice none 0 0,.slice none 0 0,.slice none 0 0,.slice none 0 0,.slice none 0 0,.int .i64 0] 30) = U := ⟨_,rfl⟩
 obtain ⟨hB,k0,hs⟩ := Bl.al1 w (.cells #[.slice none 0 0,.slice none 0 0,.slice none 0 0,.slice none 0 0,.slice none 0 0,.int .i64 0] 30)
 rw [hU] at hB k0 hs
 have hZ : Bl.At U w.heap.size Bl.zsv := k0
 have HZ := Lib.hid hZ
 have HB := Lib.hid hB
 have HS := Lib.hid hs
 clear k0 hs hB hw hL hZ
 go_enter Tryz.func8,Tryz.ntmps8
 go_wp2_with fail
 clear hU
 refine (pack_read2 bs ao m cap U (HL.out.below HB.out) hm).mono ?_
 rintro e w1 ⟨⟨p,bo,rfl,hp,hR⟩,b1⟩
 have HP : Hid (w.heap.size + 1 ≤ p) := Lib.hid (by have := HS.out; omega)
 have HR1 := Lib.hid hR
 have HPl : Hid (p < w1.heap.size) := Lib.hid (cell_lt hR.c0)
 have HB1 := Lib.hid (bchain HB.out b1)
 have HZ1 := Lib.hid (HZ.out.below b1)
 clear b1 hp hR
 go_wp2_with fail
 refine (ird_state p bo m m bs ⟨0,0⟩ w1 HR1.out).mono ?_
 rintro e w2 ⟨h,rfl,_,⟨B1,B2,B3,B4,rs,rn⟩,r2,k2⟩
 have HZ2 := Lib.hid (Im.At.keep HZ1.out (UpdQ.ofUpd k2) (by have := HP.out; omega))
 have HB2 := Lib.hid (k2.below w HB1.out (by have := HP.out; omega))
 have hbx : Below w2.heap.size w2 (Bl.box w2 h) := (Below.refl _ _).alloc (Nat.le_refl _) _
 have HR3 := Lib.hid (r2.below hbx)
 have HRn3 := Lib.hid (rn.below hbx)
 have HZ3 := Lib.hid (HZ2.out.below hbx)
 have HB3 := Lib.hid (bchain HB2.out hbx)
 have HA3 : Hid (Bl.At (Bl.box w2 h) w2.heap.size h) := Lib.hid (heap_alloc_new w2 _)
 have HQ : Hid (B4 ≤ w2.heap.size) := Lib.hid rn.le5
 have HQw : Hid (w1.heap.size ≤ w2.heap.size) := Lib.hid k2.size
 obtain ⟨q,hq⟩ : ∃ q,w2.heap.size = q := ⟨_,rfl⟩
 obtain ⟨W3,hW3⟩ : ∃ W3,Bl.box w2 h = W3 := ⟨_,rfl⟩
 rw [hW3] at HR3 HRn3 HZ3 HB3 HA3
 rw [hq] at HA3 HQ HQw
 have HS3 := Lib.hid hW3
 have HSq := Lib.hid hq
 clear rn r2 k2 hbx hW3 hq
 go_wp2_with (first | ((with_reducible apply Bl.wpl_store (h := h) (g := w2.heap.size)); rfl; rfl; rfl; rfl; rfl; rfl))
 rw [HS3.out,HSq.out]
 clear HS3 HSq
 refine (rd_end p bo m m bs _ W3 HR3.out).mono ?_
 rintro e w4 ⟨rfl,_,k4⟩
 have HRn4 := Lib.hid (HRn3.out.keep (UpdQ.ofUpd k4) (.inl (by have := HPl.out; omega)))
 have HZ4 := Lib.hid (Im.At.keep HZ3.out (UpdQ.ofUpd k4) (by have := HP.out; omega))
 have HA4 := Lib.hid (Im.At.keep HA3.out (UpdQ.ofUpd k4) (by have := HPl.out; have := HQw.out; omega))
 have HB4 := Lib.hid (k4.below w HB3.out (by have := HP.out; omega))
 clear k4
 obtain ⟨E,hE⟩ : ∃ E,(rEnd bs (Im.rState bs ⟨0,0⟩).2).1 = E := ⟨_,rfl⟩
 have HE : Hid (Im.fin bs = E) := Lib.hid hE
 rw [hE]
 clear hE
 by_cases hE0 : E = 0
 ·
  subst hE0
  have HErr : Hid (Im.getE bs = 4) := Lib.hid (if_pos HE.out)
  go_wp2_with fail
  refine (img_reckon q HA4.out HRn4.out (Im.state_rs bs ⟨0,0⟩) (.inr HQ.out)).mono ?_
  rintro e w5 ⟨h5,k5⟩
  have HZ5 := Lib.hid (Im.At.keep HZ4.out k5 (by have := HQw.out; have := HPl.out; have := HP.out; omega))
  have HB5 := Lib.hid (k5.below w HB4.out fun b hb => by have := HQw.out; have := HPl.out; have := HP.out; omega)
  clear k5
  rcases h5 with ⟨t,h',rfl,hf,a5,lp⟩ | ⟨rfl,hf⟩
  ·
   have HF := Lib.hid hf
   have HLp := Lib.hid lp
   have HA5 := Lib.hid a5
   obtain ⟨x0,x1,x2,x3,x4,x5⟩ := a5.cells
   clear hf lp a5
   go_wp2_with fail
   refine (bil_right_any t h' w5 w5 (Below.refl _ _) HLp.out.lies).mono ?_
   rintro e w6 ⟨hcase,b6⟩
   have HZ6 := Lib.hid (HZ5.out.below b6)
   have HB6 := Lib.hid (bchain HB5.out b6)
   have HA6 := Lib.hid (HA5.out.below b6)
   have HL6 := Lib.hid (HLp.out.below b6)
   clear b6 x0 x1 x2 x3 x4 x5
   rcases hcase with ⟨hR,rfl⟩ | ⟨hN,rfl⟩
   ·
    have HTold : Hid (Im.Told bs t) := Lib.hid ⟨HE.out,HF.out,hR⟩
    clear hR
    have hA6 := HA6.out
    have hZ6 := HZ6.out
    go_wp2_with (first | ((with_reducible apply Bl.wpl_load hA6); rfl; rfl; rfl) | ((with_reducible apply Bl.wpl_put (h := h') hZ6); rfl; rfl; rfl; rfl))
    refine bodyPost_ret (Bl.resultsP Tryz.results8 rfl rfl (hZ6.lay _)) rfl ⟨.inl ⟨h',t,rfl,HTold.out,?_⟩,bchain HW.out (Bl.below_lay HB6.out (Nat.le_refl _) _)⟩
    exact (HL6.out.mono (Q := fun b => w.heap.size < b) fun b hb => by have := hb.1; have := HPl.out; have := HP.out; omega).kp (KpP.row w6 (by omega) _)
   ·
    have HNo : Hid (∀ t',¬ Im.Told bs t') := Lib.hid fun t' z => hN (by
     have h1 := z.2.1
     rw [HF.out,Option.some.injEq] at h1
     rw [h1]
     exact z.2.2)
    clear hN
    have hZ6 := HZ6.out
    go_wp2_with (first | ((with_reducible apply Bl.wpl_put (h := Bl.zsv) hZ6); rfl; rfl; rfl; rfl))
    exact bodyPost_ret (Bl.resultsP Tryz.results8 rfl rfl (hZ6.lay _)) rfl ⟨.inr ⟨by rw [HErr.out]; rfl,by rw [HErr.out]; decide,HNo.out⟩,bchain HW.out (Bl.below_lay HB6.out (Nat.le_refl _) _)⟩
  ·
   have HNo : Hid (∀ t',¬ Im.Told bs t') := Lib.hid fun t' z => by
    have h1 := z.2.1
    rw [hf] at h1
    cases h1
   clear hf
   have hZ5 := HZ5.out
   go_wp2_with (first | ((with_reducible apply Bl.wpl_put (h := Bl.zsv) hZ5); rfl; rfl; rfl; rfl))
   exact bodyPost_ret (Bl.resultsP Tryz.results8 rfl rfl (hZ5.lay _)) rfl ⟨.inr ⟨by rw [HErr.out]; rfl,by rw [HErr.out]; decide,HNo.out⟩,bchain HW.out (Bl.below_lay HB5.out (Nat.le_refl _) _)⟩
 ·
  have HErr : Hid (Im.getE bs = E) := Lib.hid ((if_neg (by rw [HE.out]; exact hE0)).trans HE.out)
  have HNo : Hid (∀ t',¬ Im.Told bs t') := Lib.hid fun t' z => hE0 (HE.out.symm.trans z.1)
  have HE0 := Lib.hid hE0
  have qe : (E != 0) = true := bne_iff_ne.2 hE0
  have hZ4 := HZ4.out
  clear hE0
  go_wp2_with (first | ((with_reducible apply Bl.wpl_put (h := Bl.zsv) hZ4); rfl; rfl; rfl; rfl))
  exact bodyPost_ret (Bl.resultsP Tryz.results8 rfl rfl (hZ4.lay _)) rfl ⟨.inr ⟨by rw [HErr.out]; rfl,by rw [HErr.out]; exact HE0.out,HNo.out⟩,bchain HW.out (Bl.below_lay HB4.out (Nat.le_refl _) _)⟩
end Go.Proofs.YtillcleccjgocaaGreat
namespace Go.Proofs.YtillcleccjgocaaGreat.Im
open Pk Cm Bl
theorem raw_strip {s : Bl.St} (h : StO s) : Raw (strip s) := by
 refine ⟨h.tab,⟨by show (s.ser.map cutSer).length ≤ 8; rw [List.length_map]; exact h.ser.1,fun r hr => ?_⟩,⟨by show (s.post.map cutPost).length ≤ 40; rw [List.length_map]; exact h.post.1,fun p hp => ?_⟩,h.sess,rfl,h.next⟩
 ·
  obtain ⟨q,hq,rfl⟩ := List.mem_map.1 hr
  exact ⟨(h.ser.2 q hq).1,(h.ser.2 q hq).2,rfl⟩
 ·
  obtain ⟨q,hq,rfl⟩ := List.mem_map.1 hp
  have o := h.post.2 q hq
  refine ⟨o.ser,o.day,o.ofS,o.ofN,⟨by show (q.tot.parts.map cutPart).length ≤ 12; rw [List.length_map]; exact o.few,fun x hx => ?_⟩,rfl,rfl,rfl,rfl,rfl⟩
  obtain ⟨y,hy,rfl⟩ := List.mem_map.1 hx
  exact ⟨(o.parts y hy).1,(o.parts y hy).2.1,(o.parts y hy).2.2,rfl⟩
theorem rem_0 (bs : List UInt8) : Rem bs s0 bs := ⟨rfl,rfl⟩
theorem read_own {s : Bl.St} (h : StO s) (r : List UInt8) : (rState (stB s ++ r) s0).1 = strip s ∧ Rem (stB s ++ r) (rState (stB s ++ r) s0).2 r := by
 have hr : Rem (stB s ++ r) s0 (stB (strip s) ++ r) := by rw [stB_strip]; exact rem_0 _
 exact fwd_state (raw_strip h) hr
end Go.Proofs.YtillcleccjgocaaGreat.Im
namespace Go.Proofs.YtillcleccjgocaaGreat
open Go.RowKit
open Mem Pk Cm
theorem Im.fin_nil {bs : List UInt8} {st : St} (h : Rem bs st []) : (rEnd bs st).1 = 0 := by
 have h1 := List.drop_eq_nil_iff.1 h.2
 unfold rEnd
 rw [if_neg (fun z => by omega)]
 exact h.1
theorem Im.fin_some {bs r : List UInt8} {st : St} (h : Rem bs st r) (hr : r ≠ []) : (rEnd bs st).1 = 5 := by
 have hl : st.at' < bs.length := by
  rcases Nat.lt_or_ge st.at' bs.length with k | k
  · exact k
  · exact absurd (h.2.symm.trans (List.drop_eq_nil_of_le k)) hr
 unfold rEnd
 rw [if_pos ⟨h.1,hl⟩]
theorem Im.fin_rem {bs : List UInt8} {st : St} (h : (rEnd bs st).1 = 0) : Rem bs st [] := by
 unfold rEnd at h
 split at h
 · cases h
 ·
  rename_i k
  refine ⟨h,List.drop_eq_nil_of_le ?_⟩
  have h2 : st.err = 0 := h
  rcases Nat.lt_or_ge st.at' bs.length with z | z
  · exact absurd ⟨h2,z⟩ k
  · exact z
theorem Im.told_own {s : Bl.St} (hR : Bl.Right s) (hO : Im.StO s) : Im.Told (Im.stB s) s := by
 have h := Im.read_own hO []
 rw [List.append_nil] at h
 refine ⟨Im.fin_nil h.2,?_,hR⟩
 have e : (Im.rState (Im.stB s) ⟨0,0⟩).1 = Im.strip s := h.1
 rw [e]
 exact Im.fill_strip hR
theorem Im.told_fun {bs : List UInt8} {s t : Bl.St} (h : Im.Told bs s) (k : Im.Told bs t) : s = t := Option.some.inj (h.2.1.symm.trans k.2.1)
theorem Im.told_bytes {bs : List UInt8} {t : Bl.St} (h : Im.Told bs t) : Im.stB t = bs := by
 obtain ⟨h1,h2⟩ := Im.bwd_state (Im.fin_rem h.1)
 rw [List.append_nil] at h1
 rw [Im.bytes_fill h2 h.2.1]
 exact h1.2.symm
theorem Im.new_bytes : Im.stB Bl.new = [0,0,0,0,2] := by decide +kernel
theorem Im.new_st : Im.StO Bl.new := Im.ok_of (w := default) Bl.right_new (Bl.lies_new _)
theorem Im.told_new : Im.Told [0,0,0,0,2] Bl.new := by
 rw [← Im.new_bytes]
 exact Im.told_own Bl.right_new Im.new_st
theorem Im.get_tail : Im.getE [0,0,0,0,2,0] = 5 ∧ ∀ t,¬ Im.Told [0,0,0,0,2,0] t := by
 have h := Im.read_own Im.new_st [0]
 rw [Im.new_bytes] at h
 have e : Im.fin [0,0,0,0,2,0] = 5 := Im.fin_some h.2 (by simp)
 refine ⟨?_,fun t z => ?_⟩
 ·
  unfold Im.getE
  rw [e]
  rfl
 ·
  have := z.1
  rw [e] at this
  cases this
theorem Im.get_none : Im.getE [] = 3 ∧ ∀ t,¬ Im.Told [] t := by
 have e : Im.fin [] = 3 := by decide +kernel
 refine ⟨?_,fun t z => ?_⟩
 ·
  unfold Im.getE
  rw [e]
  rfl
 ·
  have := z.1
  rw [e] at this
  cases this
theorem Im.get_zero : Im.getE [0,0,0,0,0] = 4 ∧ ∀ t,¬ Im.Told [0,0,0,0,0] t := by
 have e : Im.fin [0,0,0,0,0] = 0 := by decide +kernel
 refine ⟨by unfold Im.getE; rw [e]; rfl,fun t z => ?_⟩
 have h1 := Im.told_bytes z
 have h2 := z.2.2.next.1
 have h3 : t.next = 0 := by
  have h4 := z.2.1
  unfold Im.fill at h4
  split at h4
  ·
   split at h4
   ·
    rw [Option.some.injEq] at h4
    rw [← h4]
    show (Im.rState [0,0,0,0,0] ⟨0,0⟩).1.next = 0
    decide +kernel
   · cases h4
  · cases h4
 omega
theorem img_get_yes (bs : List UInt8) (t : Bl.St) (ao : Option Addr) (m cap : Nat) (w0 w : World) (hw : Below w0.heap.size w0 w) (hL : By.Ls w ao m cap bs) (hm : m ≤ 140737488355328) (hT : Im.Told bs t) :
  Calls Tryz.prog 8 #[.slice ao m cap] w fun e w' => ∃ h,e = .returned (.tuple #[Bl.Sv.val h,.int .i64 0]) ∧ Bl.Lp (fun b => w.heap.size < b) w' h t ∧ Below w0.heap.size w0 w' := by
 refine (img_get bs ao m cap w0 w hw hL hm).mono ?_
 rintro e w' ⟨h1,b⟩
 rcases h1 with ⟨h,t',rfl,h2,h3⟩ | ⟨_,_,h2⟩
 ·
  rw [Im.told_fun h2 hT] at h3
  exact ⟨h,rfl,h3,b⟩
 · exact absurd hT (h2 t)
theorem img_get_no (bs : List UInt8) (E : Int) (ao : Option Addr) (m cap : Nat) (w0 w : World) (hw : Below w0.heap.size w0 w) (hL : By.Ls w ao m cap bs) (hm : m ≤ 140737488355328) (hT : Im.getE bs = E ∧ ∀ t,¬ Im.Told bs t) :
  Calls Tryz.prog 8 #[.slice ao m cap] w fun e w' => e = .returned (.tuple #[Bl.zsv.val,.int .i64 E]) ∧ Below w0.heap.size w0 w' := by
 refine (img_get bs ao m cap w0 w hw hL hm).mono ?_
 rintro e w' ⟨h1,b⟩
 rcases h1 with ⟨h,t',rfl,h2,h3⟩ | ⟨rfl,_,h2⟩
 · exact absurd h2 (hT.2 t')
 ·
  rw [hT.1]
  exact ⟨rfl,b⟩
end Go.Proofs.YtillcleccjgocaaGreat
namespace Go.Proofs.YtillcleccjgocaaGreat.By
open Go.RowKit
open Mem
theorem take_snoc {xs ys : List UInt8} {k : Nat} (h : xs.take k = ys.take k) (ha : k < xs.length) (hb : k < ys.length) (e : xs[k] = ys[k]) : xs.take (k + 1) = ys.take (k + 1) := by
 rw [List.take_succ_eq_append_getElem ha,List.take_succ_eq_append_getElem hb,h,e]
set_option maxHeartbeats 1000000 in
theorem same_any (xs ys : List UInt8) (ao bo : Option Addr) (n m ca cb : Nat) (w : World) (hA : Ls w ao n ca xs) (hB : Ls w bo m cb ys) :
  Calls Tryz.prog 9 #[.slice ao n ca,.slice bo m cb] w fun e w' => e = .returned (.bool (decide (xs = ys))) ∧ Below w.heap.size w w' := by
 have HA := Lib.hid hA
 have HB := Lib.hid hB
 have HN := Lib.hid hA.len
 have HM := Lib.hid hB.len
 have hca := hA.reach
 have hfa := hA.fits
 have hcb := hB.reach
 have hfb := hB.fits
 clear hA hB
 by_cases hnm : n = m
 ·
  subst hnm
  have hne : ((n : Int) != (n : Int)) = false := bne_self_eq_false _
  go_enter Tryz.func9,Tryz.ntmps9
  go_wp2
  go_loopw [5] (fun i wr => ∃ k : Nat,k ≤ n ∧ i = .int .i64 k ∧ Hid (xs.take k = ys.take k) ∧ Hid (Below w.heap.size w wr)) (fun i _ => n - (intOf i).toNat)
  case atStart => exact ⟨0,Nat.zero_le _,rfl,Lib.hid rfl,Lib.hid (Below.refl _ _)⟩
  case round =>
   obtain ⟨k,hk,rfl,HT,HBz⟩ := hrel
   by_cases hlt : k < n
   ·
    obtain ⟨a,oa,rfl⟩ := HA.out.at (by omega)
    obtain ⟨b,ob,rfl⟩ := HB.out.at (by omega)
    have hka : k < xs.length := HN.out ▸ hlt
    have hkb : k < ys.length := HM.out ▸ hlt
    have c1 := HA.out.row k hka
    have c2 := HB.out.row k hkb
    rw [← (bcell HBz.out).1 _ _ (cell_lt c1)] at c1
    rw [← (bcell HBz.out).1 _ _ (cell_lt c2)] at c2
    unfold bv at c1 c2
    have hlt' : (k : Int) < (n : Int) := by omega
    by_cases hxy : xs[k] = ys[k]
    ·
     have HT' : Hid (xs.take (k + 1) = ys.take (k + 1)) := Lib.hid (take_snoc HT.out hka hkb hxy)
     have hne : ((xs[k].toNat : Int) != (ys[k].toNat : Int)) = false := by rw [hxy]; simp
     clear hxy
     generalize xs[k] = x at *
     generalize ys[k] = y at *
     go_wp2
     go_quiet (fail)
     go_wp2
     go_roundw
     case rel => exact ⟨k + 1,by omega,by go_num,HT',Lib.hid (below_drewN HBz.out _)⟩
     case measure => simp [intOf]; omega
    ·
     have hne : ((xs[k].toNat : Int) != (ys[k].toNat : Int)) = true := by
      rw [bne_iff_ne]
      intro h
      exact hxy (UInt8.toNat_inj.1 (by omega))
     have HF : Hid (decide (xs = ys) = false) := Lib.hid (by
      rw [decide_eq_false_iff_not]
      intro h
      subst h
      exact hxy rfl)
     clear hxy
     generalize xs[k] = x at *
     generalize ys[k] = y at *
     go_wp2
     go_quiet (fail)
     go_wp2
     go_ret
     exact ⟨by rw [HF.out]; rfl,below_drewN HBz.out _⟩
   ·
    have HF : Hid (decide (xs = ys) = true) := Lib.hid (by
     rw [decide_eq_true_iff]
     have h1 := HT.out
     have h2 := HN.out
     have h3 := HM.out
     rwa [List.take_of_length_le (by omega),List.take_of_length_le (by omega)] at h1)
    go_wp2
    go_ret
    exact ⟨by rw [HF.out]; rfl,HBz.out⟩
 ·
  have HF : Hid (decide (xs = ys) = false) := Lib.hid (by
   rw [decide_eq_false_iff_not]
   intro h
   subst h
   exact hnm (HN.out.trans HM.out.symm))
  have hne : ((n : Int) != (m : Int)) = true := bne_iff_ne.2 (by omega)
  go_enter Tryz.func9,Tryz.ntmps9
  go_wp2
  go_ret
  exact ⟨by rw [HF.out]; rfl,Below.refl _ _⟩
end Go.Proofs.YtillcleccjgocaaGreat.By
namespace Go.Proofs.YtillcleccjgocaaGreat
open Go.RowKit
open Mem Pk Cm
theorem Bl.Lies.new_at {w v : World} {h : Bl.Sv} (l : Bl.Lies w h Bl.new) : Bl.Lies v h Bl.new := by
 obtain ⟨rs,h1,h2⟩ := l.post
 have e : rs = [] := List.length_eq_zero_iff.1 h2.len
 subst e
 exact ⟨⟨l.tab.len,l.tab.fits,l.tab.reach,l.tab.nil,.inl rfl,l.tab.short⟩,⟨l.ser.len,l.ser.fits,l.ser.reach,l.ser.nil,.inl rfl,l.ser.short⟩,⟨[],⟨h1.len,h1.fits,h1.reach,h1.nil,.inl rfl,h1.short⟩,Bl.each_nil v⟩,⟨l.book.len,l.book.fits,l.book.reach,l.book.nil,.inl rfl,l.book.short⟩,⟨l.sess.len,l.sess.fits,l.sess.reach,l.sess.nil,.inl rfl,l.sess.short⟩,l.next,l.fit⟩
theorem Im.ls5 (u : World) (a b c d e : UInt8) : By.Ls (u.alloc (.cells #[By.bv a,By.bv b,By.bv c,By.bv d,By.bv e] 5)) (some ⟨u.heap.size,0,none⟩) 5 5 [a,b,c,d,e] := by
 have h : By.Block (u.alloc (.cells #[By.bv a,By.bv b,By.bv c,By.bv d,By.bv e] 5)) u.heap.size [a,b,c,d,e] := heap_alloc_new u _
 exact h.ls (by simp)
theorem By.same_eq (xs : List UInt8) (ao bo : Option Addr) (n m ca cb : Nat) (w0 w : World) (hw : Below w0.heap.size w0 w) (hA : By.Ls w ao n ca xs) (hB : By.Ls w bo m cb xs) :
  Calls Tryz.prog 9 #[.slice ao n ca,.slice bo m cb] w fun e w' => e = .returned (.bool true) ∧ Below w0.heap.size w0 w' :=
 (By.same_any xs xs ao bo n m ca cb w hA hB).mono fun e w' ⟨h1,h2⟩ => ⟨by rw [h1,decide_eq_true rfl],bchain hw h2⟩
set_option maxHeartbeats 4000000 in
theorem imruns (w0 w : World) (hw : Below w0.heap.size w0 w) : Calls Tryz.prog 3 #[] w fun e w' => e = .returned (.bool true) ∧ Below w0.heap.size w0 w' := by
 have HW := Lib.hid hw
 clear hw
 go_enter Tryz.func3,Tryz.ntmps3
 go_wp2_with fail
 refine (bil_new w _ (Below.refl _ _)).mono ?_
 rintro e w1 ⟨h0,rfl,hL0,b1⟩
 have HL0 := Lib.hid hL0.lies
 have HB1 := Lib.hid b1
 clear hL0 b1
 go_wp2_with fail
 refine (img_put h0 Bl.new w1 w1 (Below.refl _ _) HL0.out).mono ?_
 rintro e w2 ⟨h2,b2⟩
 have HB2 := Lib.hid (bchain HB1.out b2)
 clear b2
 rcases h2 with ⟨_,ao,n,cap,rfl,hLb,_⟩ | ⟨hN,_⟩
 case inr => exact absurd Bl.right_new hN
 rw [Im.new_bytes] at hLb
 obtain rfl : n = 5 := hLb.len
 have hcap := hLb.reach
 have hfit := hLb.fits
 have HLb := Lib.hid hLb
 clear hLb
 go_wp2_with fail
 refine (img_get_yes _ Bl.new ao 5 cap w2 w2 (Below.refl _ _) HLb.out (by omega) Im.told_new).mono ?_
 rintro e w3 ⟨h,rfl,lp,b3⟩
 have hb4 := Bl.below_own w3 h
 have HB4 := Lib.hid (bchain (bchain HB2.out b3) hb4)
 have HA4 := Lib.hid (Bl.at_box w3 h)
 have HLs := Lib.hid (lp.lies.below hb4)
 have HL4 := Lib.hid (HLb.out.below (bchain b3 hb4))
 obtain ⟨W4,hW4⟩ : ∃ W4,Bl.box w3 h = W4 := ⟨_,rfl⟩
 rw [hW4] at HB4 HA4 HLs HL4
 have HS4 := Lib.hid hW4
 clear lp b3 hb4 hW4 HLb
 go_wp2_with (first | ((with_reducible apply Bl.wpl_store (h := h) (g := w3.heap.size)); rfl; rfl; rfl; rfl; rfl; rfl) | (at_builtin; go_must (refine By.wpList_append (W4.alloc (.cells #[] 5)) rfl (.tmp 18) (.tmp 19) rfl W4.heap.size (.slice (some ⟨W4.heap.size,0,none⟩) 0 0) [] rfl (By.own_empty (Nat.le_refl _) (heap_alloc_new W4 _)) ao 5 cap [0,0,0,0,2] rfl rfl HL4.out.nil (HL4.out.below ((Below.refl _ _).alloc (Nat.le_refl _) _)).seg (by simp) (by simp) ?_)) | rw [HS4.out])
 obtain ⟨g,hg⟩ : ∃ g,w3.heap.size = g := ⟨_,rfl⟩
 rw [hg] at HA4
 try rw [hg]
 clear HS4 hg
 intro v5 w5 o5 gr5 _
 have hb5 : Below W4.heap.size W4 w5 := ((Below.refl _ _).alloc (Nat.le_refl _) _).grown gr5 (by simp) (fun k e => by cases e; exact Nat.le_refl _)
 have HB5 := Lib.hid hb5
 have HO5 := Lib.hid o5
 clear o5 gr5 hb5
 go_wp2_with (at_builtin; go_must (refine By.wpList_append (w5.alloc (.cells #[.int .u8 0] 5)) rfl (.tmp 20) (.tmp 21) rfl W4.heap.size v5 [0,0,0,0,2] rfl (By.own_alloc HO5.out _) (some ⟨w5.heap.size,0,none⟩) 1 1 [0] rfl rfl (fun z => by cases z) (By.seg_one (heap_alloc_new w5 _) rfl) (by simp) (by have := HB5.out.size; simp; omega) ?_))
 intro v6 w6 o6 gr6 _
 have hb6 : Below W4.heap.size W4 w6 := (HB5.out.alloc HB5.out.size _).grown gr6 (by have := HB5.out.size; simp; omega) (By.own_ge HO5.out)
 obtain ⟨ao6,cap6,rfl,l6,_⟩ := By.own_ls o6
 have HB6 := Lib.hid hb6
 have HL6 := Lib.hid l6
 clear o6 gr6 hb6 l6 HO5 HB5
 go_wp2_with fail
 refine (img_get_no [0,0,0,0,2,0] 5 ao6 6 cap6 W4 w6 HB6.out HL6.out (by omega) Im.get_tail).mono ?_
 rintro e w7 ⟨rfl,b7⟩
 have hb8 := Bl.below_own w7 Bl.zsv
 have HB8 := Lib.hid (bchain b7 hb8)
 clear b7 hb8 HB6 HL6
 go_wp2_with (first | ((with_reducible apply Bl.wpl_store (h := Bl.zsv) (g := w7.heap.size)); rfl; rfl; rfl; rfl; rfl; rfl))
 generalize Bl.box w7 Bl.zsv = W8 at *
 refine (img_get_no [] 3 none 0 0 W4 W8 HB8.out (By.ls_nil _) (by omega) Im.get_none).mono ?_
 rintro e w9 ⟨rfl,b9⟩
 have HB10 := Lib.hid (bchain b9 (Bl.below_own w9 Bl.zsv))
 clear b9 HB8
 go_wp2_with (first | ((with_reducible apply Bl.wpl_store (h := Bl.zsv) (g := w9.heap.size)); rfl; rfl; rfl; rfl; rfl; rfl))
 generalize Bl.box w9 Bl.zsv = W10 at *
 refine (img_get_no [0,0,0,0,0] 4 (some ⟨W10.heap.size,0,none⟩) 5 5 W4 _ (below_box HB10.out _) (Im.ls5 W10 0 0 0 0 0) (by omega) Im.get_zero).mono ?_
 rintro e w11 ⟨rfl,b11⟩
 have HB12 := Lib.hid (bchain b11 (Bl.below_own w11 Bl.zsv))
 clear b11 HB10
 go_wp2_with (first | ((with_reducible apply Bl.wpl_store (h := Bl.zsv) (g := w11.heap.size)); rfl; rfl; rfl; rfl; rfl; rfl))
 generalize Bl.box w11 Bl.zsv = X at *
 have HAx := Lib.hid (HA4.out.below HB12.out)
 have HLx := Lib.hid (HLs.out.below HB12.out)
 have HLy := Lib.hid (HL4.out.below HB12.out)
 have HBx := Lib.hid (bchain HB4.out HB12.out)
 clear HA4 HLs HL4 HB12
 have lx : ∀ u,Below X.heap.size X u → Below X.heap.size X u ∧ u.cell? ⟨g,0,none⟩ = some (.slice h.tab.ao h.tab.n h.tab.cap) ∧ u.cell? ⟨g,1,none⟩ = some (.slice h.ser.ao h.ser.n h.ser.cap) ∧ u.cell? ⟨g,2,none⟩ = some (.slice h.post.ao h.post.n h.post.cap) ∧ u.cell? ⟨g,3,none⟩ = some (.slice h.book.ao h.book.n h.book.cap) ∧ u.cell? ⟨g,4,none⟩ = some (.slice h.sess.ao h.sess.n h.sess.cap) ∧ u.cell? ⟨g,5,none⟩ = some (.int .i64 h.next) := fun u b => ⟨b,(HAx.out.below b).cells⟩
 obtain ⟨x0,x1,x2,x3,x4,x5⟩ := HAx.out.cells
 go_region_held3 (fun u => Below X.heap.size X u ∧ u.cell? ⟨g,0,none⟩ = some (.slice h.tab.ao h.tab.n h.tab.cap) ∧ u.cell? ⟨g,1,none⟩ = some (.slice h.ser.ao h.ser.n h.ser.cap) ∧ u.cell? ⟨g,2,none⟩ = some (.slice h.post.ao h.post.n h.post.cap) ∧ u.cell? ⟨g,3,none⟩ = some (.slice h.book.ao h.book.n h.book.cap) ∧ u.cell? ⟨g,4,none⟩ = some (.slice h.sess.ao h.sess.n h.sess.cap) ∧ u.cell? ⟨g,5,none⟩ = some (.int .i64 h.next)) (first | with_reducible assumption | (apply lx; repeat (first | with_reducible assumption | with_reducible apply below_box | with_reducible apply Below.drew | with_reducible exact Below.refl _ _)) | fail) (first | (go_at_call 9; have hBz := And.left (by assumption); refine (By.same_eq [0,0,0,0,2] ao _ 5 5 cap 5 X _ hBz (HLy.out.below hBz) (by first | exact Im.ls5 X 0 0 0 0 2 | exact (Im.ls5 X 0 0 0 0 2).below (Below.refl _ _).drew | exact Im.ls5 X.drew 0 0 0 0 2 | exact (Im.ls5 X.drew 0 0 0 0 2).below (Below.refl _ _).drew)).mono ?_; rintro e u ⟨rfl,b⟩; have sS := lx _ b; have HBu := Lib.hid b; clear b hBz) | (go_at_call 7; have hBz := And.left (by assumption); refine (bil_new X _ hBz).mono ?_; rintro e u ⟨hN,rfl,hLN,b⟩; have sS := lx _ b; have HLn := Lib.hid hLN; have HBu := Lib.hid b; clear b hLN hBz) | (go_at_call 10; have hBz := And.left (by assumption); refine (keep_states Bl.new h hN X _ hBz (HLx.out.below hBz) HLn.out.lies.new_at).mono ?_; rintro e u ⟨rfl,b⟩; have sS := lx _ b; have HBu := Lib.hid b; clear b hBz) | fail)
 all_goals (try go_wp2_with fail)
 all_goals go_ret
 all_goals exact ⟨rfl,bchain HW.out (bchain HBx.out (by first | exact HBu.out | exact HBu.out.drew))⟩
theorem imageRuns_walk (w : World) : Calls Tryz.prog 3 #[] w fun e w' => e = .returned (.bool true) ∧ Below w.heap.size w w' := imruns w w (Below.refl _ _)
end Go.Proofs.YtillcleccjgocaaGreat
