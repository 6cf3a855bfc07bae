/- THE WALK OF SumUnlike. -/
import Derived.Test.YtehdhhmaijogbaaRuns
import Derived.Test.YtehdhhmaijogbaaFlipStep
import Derived.Test.YtehdhhmaijogbaaArgs
namespace Go.Proofs.Ytehdhhmaijogbaa
open Go.RowKit

set_option maxHeartbeats 4000000 in
theorem unlike_core (c : Nat) (a1 : Option Addr) (n cap1 : Nat) (p : List UInt8) (at_ : Int) (burst : Nat) (w : World) (hc : c < 4294967296) (w1 : IsBytes w a1 n cap1 p) (hat : -9223372036854775808 ≤ at_ ∧ at_ ≤ 9223372036854775807) (hbu : burst < 4294967296) (hn0 : 0 < n) :
    Calls Try.prog 8 #[.int .u32 (c : Int), .slice a1 n cap1, .int .i64 at_, .int .u32 (burst : Int)] w fun e w' => e = .returned (.bool true) ∧ Below w.heap.size w w' := by
  have hl1 : n ≤ 140737488351232 := Nat.le_trans w1.fits w1.reach
  have HL1 : Hid (a1 = none → cap1 = 0) := w1.nil
  have L1 : Hid (n = p.length) := w1.len
  have S1 : Hid (Seg w a1 p) := w1.seg
  clear w1
  have hne : ((n : Int) == 0) = false := by simp; omega
  go_enter Try.func8, Try.ntmps8
  go_wp2_with (at_builtin; go_must (refine wpList_append_bytes _ rfl _ _ rfl w.heap.size 0 0 [] [] rfl (row_new w []) rfl rfl (by omega) _ _ _ p rfl L1.out HL1.out (S1.out.alloc _) (by omega) ?_))
  intro g cp spare u2 r2 hg hcp hcpm hgrow
  have HR2 : Hid (Row u2 g (p.map bv ++ spare)) := by show Row _ _ _; simpa using r2
  have HB2 : Hid (Below w.heap.size w u2) := ((Below.refl _ _).alloc (Nat.le_refl _) _).grown hgrow (by simp) (by rintro k ⟨⟩; omega)
  have hg' : w.heap.size ≤ g := by omega
  have HCP : Hid (cp = n + spare.length) := by show _ = _; omega
  clear r2 hg hcp hgrow
  go_wp2_with fail
  refine (within_any _ _ _ _ hat (by omega) (by omega) (by omega)).mono ?_
  rintro e u3 ⟨⟨bit', rfl, hi0, hi1⟩, rfl⟩
  obtain ⟨bit, rfl⟩ := Int.eq_ofNat_of_zero_le hi0
  have hbit : bit < 8 * n := by omega
  clear hi0 hi1
  go_wp2_with fail
  go_loopw [11, 12] (fun t i wr => ∃ (k y : Nat) (xs : List UInt8), k ≤ 32 ∧ i = .int .i64 k ∧ t = .bool (decide (y ≠ 0)) ∧ Hid (Burst w w.heap.size g p xs spare bit k y wr)) (fun _ i _ => 32 - (intOf i).toNat)
  case atStart => exact ⟨0, 0, p, by omega, rfl, rfl, Crc.Turned.start p bit, HR2.out, HB2.out⟩
  case round =>
    clear HR2 HB2
    obtain ⟨k, y, xs, hk, rfl, rfl, HT⟩ := hrel
    by_cases hlt : k < 32
    · have hbt := bit_test burst k hbu
      by_cases hb : burst / 2 ^ k % 2 = 1
      · have hb1 : (bits .and .u32 ((burst : Int) / 2 ^ k) 1 == 1) = true := by rw [hbt, hb]; rfl
        clear hbt hb
        by_cases hin : bit + k < 8 * n
        · have hj : (bit + k) / 8 < xs.length := by have := HT.out.1.len; have := L1.out; omega
          have hjn : (bit + k) / 8 < n := by omega
          have hcl := HT.out.cell _ hj
          have hfz := HT.out.2.1.frozen ((bit + k) / 8)
          have hxl := xs[(bit + k) / 8].toNat_lt
          obtain ⟨x, hx⟩ : ∃ x, xs[(bit + k) / 8] = x := ⟨_, rfl⟩
          have HX : Hid (xs[(bit + k) / 8] = x) := hx
          rw [hx] at hcl hxl
          have HT' : Hid (Burst w w.heap.size g p (xs.set ((bit + k) / 8) (Crc.flipB x ((bit + k) % 8))) spare bit (k + 1) (2 ^ k + y) (wr.setCell ⟨g, (bit + k) / 8, none⟩ (Value.int .u8 (bits .xor .u8 (x.toNat : Int) (2 ^ ((bit + k) % 8) % 256)))).drew) := HT.out.flip hg' hj hx
          clear hx HX HT hj
          have HP : Hid (Value.bool true = Value.bool (decide (2 ^ k + y ≠ 0))) := by rw [pow_ne]; rfl
          go_wp2
          go_region
          go_wp2
          go_roundw
          case rel => exact ⟨k + 1, 2 ^ k + y, _, by omega, by go_num, HP.out, HT'⟩
          case measure => simp [intOf]; omega
        · go_wp2
          go_roundw
          case rel => exact ⟨k + 1, y, xs, by omega, by go_num, by simp, HT.out.keep⟩
          case measure => simp [intOf]; omega
      · have hb1 : (bits .and .u32 ((burst : Int) / 2 ^ k) 1 == 1) = false := by rw [hbt, beq_eq_false_iff_ne]; omega
        clear hbt hb
        go_wp2
        go_roundw
        case rel => exact ⟨k + 1, y, xs, by omega, by go_num, by simp, HT.out.keep⟩
        case measure => simp [intOf]; omega
    · have hu : Hid (Crc.on c p = Crc.on c xs ↔ y = 0) := by
        have h := HT.out.1
        refine Crc.unlike c p xs bit y h.len h.sum (Nat.lt_of_lt_of_le h.small ?_)
        have : k = 32 := by omega
        subst this
        decide
      have HB : Hid (Below w.heap.size w wr) := HT.out.2.2
      have HX : Hid (Seg wr (some ⟨g, 0, none⟩) xs) := HT.out.2.1.seg
      have LX : Hid (n = xs.length) := by show _ = _; rw [HT.out.1.len]; exact L1.out
      clear HT
      go_wp2_with fail
      refine (on_any c p _ _ _ _ hc L1.out (by omega) (S1.out.below HB.out)).mono ?_
      rintro e v1 ⟨rfl, rfl⟩
      go_wp2_with fail
      refine (on_any c xs _ _ _ _ hc LX.out (by omega) HX.out).mono ?_
      rintro e v2 ⟨rfl, rfl⟩
      have heq : (((Crc.on c p : Nat) : Int) == ((Crc.on c xs : Nat) : Int)) = decide (y = 0) := by
        rw [Bool.eq_iff_iff]
        have := hu.out
        simp
        omega
      generalize Crc.on c p = s1 at *
      generalize Crc.on c xs = s2 at *
      go_wp2_with fail
      refine (runs_any _).mono ?_
      rintro e v3 ⟨rfl, b3⟩
      have HB3 : Hid (Below w.heap.size w v3) := HB.out.trans (b3.mono HB.out.size)
      clear b3 HB
      go_wp2_with fail
      go_ret
      exact ⟨rfl, HB3.out⟩
set_option maxHeartbeats 1000000 in
theorem unlike_nil (c : Nat) (a1 : Option Addr) (cap1 : Nat) (at_ : Int) (burst : Nat) (w : World) :
    Calls Try.prog 8 #[.int .u32 (c : Int), .slice a1 0 cap1, .int .i64 at_, .int .u32 (burst : Int)] w fun e w' => e = .returned (.bool true) ∧ Below w.heap.size w w' := by
  go_enter Try.func8, Try.ntmps8
  go_wp2_with fail
  refine (runs_any _).mono ?_
  rintro e v3 ⟨rfl, b3⟩
  have HB3 : Hid (Below w.heap.size w v3) := b3
  clear b3
  go_wp2_with fail
  go_ret
  exact ⟨rfl, HB3.out⟩
theorem sumUnlike_walk (a0 : Int) (a1 : Option Addr) (len1 cap1 : Nat) (z1 : List UInt8) (a2 a3 : Int) (w : World) (w0 : (Lit.int .u32 a0).wf = true) (w1 : IsBytes w a1 len1 cap1 z1) (w2 : (Lit.int .i64 a2).wf = true) (w3 : (Lit.int .u32 a3).wf = true) :
    Calls Try.prog 8 #[.int .u32 a0, .slice a1 len1 cap1, .int .i64 a2, .int .u32 a3] w fun e w' => e = .returned (.bool true) ∧ Below w.heap.size w w' := by
  obtain ⟨c, rfl, hc⟩ := u32_in w0
  obtain ⟨burst, rfl, hb⟩ := u32_in w3
  by_cases h0 : len1 = 0
  · subst h0
    exact unlike_nil c a1 cap1 a2 burst w
  · exact unlike_core c a1 len1 cap1 z1 a2 burst w hc w1 (int_in w2) hb (by omega)
end Go.Proofs.Ytehdhhmaijogbaa
