/- impostbook.Same OF TWO SLICES OF TEXTS. -/
import Derived.Test.YtegniklofhopeaaYDpStA
import Derived.Test.YtegniklofhopeaaZDp1
import Derived.BigQuiet
set_option maxRecDepth 100000
set_option linter.unusedVariables false
namespace Go.Proofs.Ytegniklofhopeaa.St
open Go.RowKit
open Mem
theorem take_snoc {xs ys : List ByteArray} {k : Nat} (h : xs.take k = ys.take k) (ha : k < xs.length) (hb : k < ys.length) (e : xs[k] = ys[k]) : xs.take (k + 1) = ys.take (k + 1) := by
 rw [List.take_succ_eq_append_getElem ha,List.take_succ_eq_append_getElem hb,h,e]
set_option maxHeartbeats 2000000 in
theorem same (xs : List ByteArray) (ao bo : Option Addr) (n ca cb : Nat) (w : World) (hA : Ls w ao n ca xs) (hB : Ls w bo n cb xs) :
  Calls Try.prog 30 #[.slice ao n ca,.slice bo n cb] w fun e w' => e = .returned (.bool true) ∧ Below w.heap.size w w' := by
 have HA := Lib.hid hA
 have HB := Lib.hid hB
 have HN := Lib.hid hA.len
 have a1 := hA.fits
 have a2 := hA.reach
 have b1 := hB.fits
 have b2 := hB.reach
 clear hA hB
 go_enter Try.func30,Try.ntmps30
 go_wp2
 go_loopw [5] (fun i wr => ∃ k : Nat,k ≤ n ∧ i = .int .i64 k ∧ Hid (Below w.heap.size w wr)) (fun i _ => n - (intOf i).toNat)
 case atStart => exact ⟨0,by omega,rfl,Lib.hid (Below.refl _ _)⟩
 case round =>
  rename World => wz
  obtain ⟨k,hk,rfl,HW⟩ := hrel
  by_cases hlt : k < n
  ·
   have hkl : k < xs.length := HN.out ▸ hlt
   obtain ⟨b,off,rfl⟩ := HA.out.at (by omega)
   obtain ⟨c,off2,rfl⟩ := HB.out.at (by omega)
   have r1 := (HA.out.below HW.out).row k hkl
   have r2 := (HB.out.below HW.out).row k hkl
   obtain ⟨x,hx⟩ : ∃ x,xs[k] = x := ⟨_,rfl⟩
   rw [hx] at r1 r2
   clear hx
   have HD := Lib.hid (below_drewN HW.out)
   go_wp2
   go_quiet (fail)
   go_wp2
   go_roundw
   case rel => exact ⟨k + 1,by omega,by go_num,Lib.hid (HD.out _)⟩
   case measure => simp [intOf]; omega
  ·
   obtain rfl : k = n := by omega
   go_wp2
   go_ret
   exact ⟨rfl,HW.out⟩
end Go.Proofs.Ytegniklofhopeaa.St
