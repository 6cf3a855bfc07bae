/- CONTRACTS OF PACKAGE letter: numbers, Put. (By genltd.py.) -/
import Derived.Test.YtagjbjppddbalaaLtC
import Derived.Test.YtagjbjppddbalaaLtQ
import Derived.Test.YtagjbjppddbalaaArgsI
import Derived.Test.YtagjbjppddbalaaPkX
import Derived.Test.YtagjbjppddbalaaByS
import Derived.Deep.RegionHeld3
set_option maxRecDepth 100000
set_option linter.unusedVariables false
namespace Go.Proofs.Ytagjbjppddbalaa.Lr
open Go.RowKit
open Mem Pk Wl

theorem numsB_take {l : List Int} {k : Nat} (h : k < l.length) : numsB (l.take (k + 1)) = numsB (l.take k) ++ nm l[k] := by
  rw [List.take_succ_eq_append_getElem h, numsB_app]
  simp [numsB]
theorem numsB_len : ∀ l : List Int, (numsB l).length ≤ 10 * l.length
  | [] => Nat.le_refl _
  | x :: l => by
    rw [numsB, List.length_append, List.length_cons]
    have := numsB_len l
    have := nm_len x
    omega
theorem entsB_take {l : List Et.T} {k : Nat} (h : k < l.length) : entsB (l.take (k + 1)) = entsB (l.take k) ++ entB l[k] := by
  rw [List.take_succ_eq_append_getElem h, entsB_app]
  simp [entsB]
/-- bytes of their own: a whole block, or none -/
def Ob (w0 w : World) (v : Value) (bs : List UInt8) : Prop := (v = .slice none 0 0 ∧ bs = []) ∨ ∃ g, v = .slice (some ⟨g, 0, none⟩) bs.length bs.length ∧ By.Block w g bs ∧ w0.heap.size ≤ g
theorem Ob.ls {w0 w : World} {v : Value} {bs : List UInt8} (h : Ob w0 w v bs) (hm : bs.length ≤ 1000000000000) : ∃ ao n cap, v = .slice ao n cap ∧ By.Ls w ao n cap bs ∧ n ≤ 1000000000000 := by
  rcases h with ⟨rfl, rfl⟩ | ⟨g, rfl, hb, _⟩
  · exact ⟨none, 0, 0, rfl, By.ls_nil w, by omega⟩
  · exact ⟨_, _, _, rfl, hb.ls (by omega), hm⟩
def NumE (w : World) (l : List Int) (e : Ending) (w' : World) : Prop := ∃ v, e = .returned v ∧ Ob w w' v (numsB l) ∧ Below w.heap.size w w'
set_option maxHeartbeats 2000000 in
theorem lt_numbers (ao : Option Addr) (n cap : Nat) (l : List Int) (w : World) (hI : Ints w ao n cap l) (hl : l.length ≤ 1000) :
    Calls Try.prog 23 #[.slice ao n cap] w (NumE w l) := by
  have HI := Lib.hid hI
  have hf := hI.fits
  have hr := hI.reach
  have HN := Lib.hid hI.len
  have hn : n ≤ 1000 := by
    have := hI.len
    omega
  clear hI
  go_enter Try.func23, Try.ntmps23
  go_wp2
  go_loopw [3, 8] (fun t i wr => ∃ k : Nat, k ≤ n ∧ i = .int .i64 k ∧ Hid (Ob w wr t (numsB (l.take k))) ∧ Hid (Below w.heap.size w wr)) (fun _ i _ => n - (intOf i).toNat)
  case atStart => exact ⟨0, by omega, rfl, Lib.hid (.inl ⟨rfl, rfl⟩), Lib.hid (Below.refl _ _)⟩
  case round =>
    rename World => wz
    obtain ⟨k, hk, rfl, HO, HB⟩ := hrel
    obtain ⟨to, tn, tc, rfl, hT, htn⟩ := HO.out.ls (by have := numsB_len (l.take k); rw [List.length_take] at this; omega)
    by_cases hlt : k < n
    · have hkl : k < l.length := HN.out ▸ hlt
      obtain ⟨b, off, z, rfl, hc, hz⟩ := HI.out.at k hlt
      have hc' := ((bcell HB.out).1 _ _ (cell_lt hc)).trans hc
      have HZ : Hid (l[k] = z) := Lib.hid (by
        rcases HI.out.seg with q | ⟨b', off', q, hcs⟩
        · rw [q] at hkl
          simp at hkl
        · cases q
          have := hcs k hkl
          rw [hc] at this
          cases this
          rfl)
      have C := Lib.hid (pack_num (numsB (l.take k)) z hz to tn tc wz hT htn)
      have HTn := Lib.hid hT.len
      clear hc hT
      go_wp2_with fail
      refine C.out.mono ?_
      rintro e w2 ⟨⟨g, rfl, hg, hb⟩, b2⟩
      have e2 : numsB (l.take (k + 1)) = numsB (l.take k) ++ vb (zz z) := by rw [numsB_take hkl, HZ.out]; rfl
      have HO2 : Hid (Ob w w2 (.slice (some ⟨g, 0, none⟩) (tn + wd (zz z)) (tn + wd (zz z))) (numsB (l.take (k + 1)))) := Lib.hid (.inr ⟨g, by rw [e2, List.length_append, ← HTn.out]; rfl, by rw [e2]; exact hb, Nat.le_trans HB.out.size hg⟩)
      have HB2 := Lib.hid (bchain HB.out b2)
      clear hg hb b2 e2 C
      go_wp2_with fail
      go_roundw
      case rel => exact ⟨k + 1, by omega, by go_num, HO2, HB2⟩
      case measure => simp [intOf]; omega
    · obtain rfl : k = n := by omega
      have HE : Hid (Ob w wz (.slice to tn tc) (numsB l)) := Lib.hid (by
        have := HO.out
        rw [List.take_of_length_le (by have := HN.out; omega)] at this
        exact this)
      clear hT HO
      go_wp2_with fail
      go_ret
      exact ⟨_, rfl, HE.out, HB.out⟩
theorem pk_flag (bs : List UInt8) (x : Bool) (ao : Option Addr) (m cap : Nat) (w : World) (hL : By.Ls w ao m cap bs) (hm : m ≤ 1000000000000) :
    Calls Try.prog 24 #[.slice ao m cap, .bool x] w fun e w' => (∃ g, e = .returned (.slice (some ⟨g, 0, none⟩) (bs ++ flB x).length (bs ++ flB x).length) ∧ w.heap.size ≤ g ∧ By.Block w' g (bs ++ flB x)) ∧ Below w.heap.size w w' := by
  have f0 : Fit 0 := ⟨by omega, by omega⟩
  have f1 : Fit 1 := ⟨by omega, by omega⟩
  have hlen := hL.len
  have HL := Lib.hid hL
  clear hL
  cases x
  · have e : (bs ++ flB false).length = m + wd (zz 0) := by rw [List.length_append, ← hlen]; rfl
    rw [e]
    clear e hlen
    go_enter Try.func24, Try.ntmps24
    go_wp2_with fail
    refine (pack_num bs 0 f0 ao m cap w HL.out hm).mono ?_
    rintro e u' ⟨⟨g, rfl, hg, hb⟩, b⟩
    go_wp2_with fail
    go_ret
    exact ⟨⟨g, rfl, hg, hb⟩, b⟩
  · have e : (bs ++ flB true).length = m + wd (zz 1) := by rw [List.length_append, ← hlen]; rfl
    rw [e]
    clear e hlen
    go_enter Try.func24, Try.ntmps24
    go_wp2_with fail
    refine (pack_num bs 1 f1 ao m cap w HL.out hm).mono ?_
    rintro e u' ⟨⟨g, rfl, hg, hb⟩, b⟩
    go_wp2_with fail
    go_ret
    exact ⟨⟨g, rfl, hg, hb⟩, b⟩
/-- numbers that a slice's literal lays into a block -/
theorem ints_made (u : World) (zs : List Int) (hz : ∀ z ∈ zs, Fit z) (hl : zs.length ≤ 1000) : Ints (u.alloc (.cells (zs.map (Value.int .i64)).toArray 3)) (some ⟨u.heap.size, 0, none⟩) zs.length zs.length zs := by
  refine ⟨rfl, Nat.le_refl _, by omega, .inr ⟨_, _, rfl, fun k hk => ?_⟩, hz⟩
  rw [cell_of_row _ u.heap.size (0 + k) _ _ _ (heap_alloc_new u _)]
  simp [hk]
end Go.Proofs.Ytagjbjppddbalaa.Lr
