/- DiskPlays walked. -/
import Derived.Test.YtegniklofhopeaaYDpDsB
import Derived.Test.YtegniklofhopeaaYDpDsC
set_option maxRecDepth 100000
set_option linter.unusedVariables false
namespace Go.Proofs.Ytegniklofhopeaa
open Go.RowKit
open Mem Dk
theorem Dk.bo_new {w W1 W2 : World} {p q : Nat} (h1 : S (fun b => w.heap.size ≤ b) w W1 p Dk.new) (h2 : Dr.Dsk (fun b => W1.heap.size ≤ b) W2 q Dk.new) (b : Below W1.heap.size W1 W2) : Bo w W2 p q Dk.new :=
 bo_of (h1.tight.later b) h2 (fun c z => Nat.le_trans h1.bel.size z) fun c z z2 => by
  have := z.2
  omega
theorem Dk.pl_new {w W1 W2 : World} {p q : Nat} (h1 : S (fun b => w.heap.size ≤ b) w W1 p Dk.new) (h2 : Dr.Dsk (fun b => W1.heap.size ≤ b) W2 q Dk.new) (b : Below W1.heap.size W1 W2) : ∃ d,PlI w p q 0 d W2 :=
 ⟨_,bo_new h1 h2 b,fun f hf => (by cases hf),Nat.le_refl _⟩
set_option maxHeartbeats 8000000 in
theorem diskPlays_walk (zs : List As.T) (ao : Option Addr) (n cap : Nat) (w : World) (hA : Asks w ao n cap zs) :
  Calls Try.prog 3 #[.slice ao n cap] w fun e w' => e = .returned (.bool true) ∧ Below w.heap.size w w' := by
 have HA := Lib.hid hA
 have HN := Lib.hid hA.ls.len
 have hcap := hA.ls.reach
 have hfit := hA.ls.fits
 clear hA
 go_enter Try.func3,Try.ntmps3
 go_wp2_with (first | (go_at_call 6; refine (s_new w).mono ?_; rintro e W1 ⟨p,rfl,h1⟩; have H1 := Lib.hid h1; clear h1) | (go_at_call 7; refine (dr_new W1).mono ?_; rintro e W2 ⟨q,rfl,h2,b2⟩; have H2 : Hid (∃ d,PlI w p q 0 d W2) := Lib.hid (pl_new H1.out h2 b2); clear h2 b2 H1))
 go_loopw [5] (fun i wr => ∃ j : Nat,j ≤ 60 ∧ i = .int .i64 j ∧ Hid (∃ d,PlI w p q j d wr)) (fun i _ => 61 - (intOf i).toNat)
 case atStart => exact ⟨0,by omega,rfl,H2⟩
 case round =>
  clear H2
  rename World => wz
  obtain ⟨j,hj,rfl,H⟩ := hrel
  by_cases hlt : j < n ∧ j < 60
  ·
   obtain ⟨hj1,hj2⟩ := hlt
   obtain ⟨b,off,rfl⟩ := HA.out.ls.at (by omega)
   have hjl : j < zs.length := HN.out ▸ hj1
   obtain ⟨d,hD⟩ := H.out
   have hrow := (HA.out.ls.row j hjl).below hD.bo.bel
   have HSh := Lib.hid (HA.out.ls.short _ (List.getElem_mem hjl))
   have HSub := Lib.hid (HA.out.sub _ (List.getElem_mem hjl))
   obtain ⟨z,hz⟩ : ∃ z,zs[j] = z := ⟨_,rfl⟩
   rw [hz] at hrow HSh HSub
   clear hz
   obtain ⟨c0,c1,c2,c3,c4,c5⟩ := hrow
   have HD := Lib.hid hD
   have HM : Hid (∃ d,PlI w p q (j + 1) d wz) := Lib.hid ⟨d,hD.bo,hD.nm,by have := hD.len; omega⟩
   clear hD H
   by_cases hb1 : (300 : Int) < (z.data.n : Int)
   ·
    go_wp2
    go_roundw
    case rel => exact ⟨j + 1,by omega,by go_num,HM⟩
    case measure => simp [intOf]; omega
   by_cases hb2 : (30 : Int) < (z.picks.n : Int)
   ·
    go_wp2
    go_roundw
    case rel => exact ⟨j + 1,by omega,by go_num,HM⟩
    case measure => simp [intOf]; omega
   have C1 := Lib.hid (law_call HD.out z HSh.out HSub.out (by omega))
   unfold As.val at C1
   clear HM
   go_wp2_with (first | (go_at_call 8; refine C1.out.mono ?_; rintro e W3 ⟨rfl,d',h3⟩; have H3 := Lib.hid h3; have C2 := Lib.hid (law_alike h3.bo h3.nm (by have := h3.len; omega)); clear h3 C1) | (go_at_call 9; refine C2.out.mono ?_; rintro e W4 ⟨rfl,b4⟩; have H4 : Hid (∃ d,PlI w p q (j + 1) d W4) := Lib.hid ⟨_,H3.out.bo.later b4,H3.out.nm,H3.out.len⟩; clear b4 C2 H3))
   go_roundw
   case rel => exact ⟨j + 1,by omega,by go_num,H4⟩
   case measure => simp [intOf]; omega
  ·
   obtain ⟨d,hD⟩ := H.out
   have HB := Lib.hid hD.bo.bel
   clear hD H
   by_cases hjn : j < n
   ·
    have hj60 : ¬ (j : Int) < 60 := by omega
    go_wp2_with (go_at_call 10; refine (diskRuns_walk _).mono ?_; rintro e W9 ⟨rfl,b9⟩; have HB9 := Lib.hid (bchain HB.out b9); clear b9)
    go_ret
    exact ⟨rfl,HB9.out⟩
   ·
    go_wp2_with (go_at_call 10; refine (diskRuns_walk _).mono ?_; rintro e W9 ⟨rfl,b9⟩; have HB9 := Lib.hid (bchain HB.out b9); clear b9)
    go_ret
    exact ⟨rfl,HB9.out⟩
end Go.Proofs.Ytegniklofhopeaa
