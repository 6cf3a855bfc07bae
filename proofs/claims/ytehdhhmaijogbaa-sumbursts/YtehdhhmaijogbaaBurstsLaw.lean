/- THE WALK OF SumBursts. -/
import Derived.Test.YtehdhhmaijogbaaRuns
import Derived.Test.YtehdhhmaijogbaaFlipStep
import Derived.Test.YtehdhhmaijogbaaArgs
namespace Go.Proofs.Ytehdhhmaijogbaa
open Go.RowKit

set_option maxHeartbeats 4000000 in
theorem bursts_core (a1 : Option Addr) (n cap1 : Nat) (p : List UInt8) (at_ : Int) (burst : Nat) (w : World) (w1 : IsBytes w a1 n cap1 p) (hat : -9223372036854775808 ≤ at_ ∧ at_ ≤ 9223372036854775807) (hbu : burst < 4294967296) :
    Calls Try.prog 7 #[.slice a1 n cap1, .int .i64 at_, .int .u32 (burst : Int)] w fun e w' => e = .returned (.bool true) ∧ Below w.heap.size w w' := by
  have hl1 : n ≤ 140737488351232 := Nat.le_trans w1.fits w1.reach
  have L1 : Hid (n = p.length) := w1.len
  have S1 : Hid (Seg w a1 p) := w1.seg
  clear w1
  have hne : (((n : Int) + 4) != ((n : Int) + 4)) = false := by simp
  have hg' : Hid (w.heap.size ≤ w.heap.size) := Nat.le_refl _
  go_enter Try.func7, Try.ntmps7
  go_wp2_with fail
  refine (seal_any p _ _ _ _ L1.out (by omega) S1.out).mono ?_
  rintro e u2 ⟨rfl, r2, b2⟩
  have HR2 : Hid (Row u2 w.heap.size ((Crc.sealed p).map bv ++ [])) := by rw [List.append_nil]; exact r2
  have HB2 : Hid (Below w.heap.size w u2) := b2
  have LS : Hid (n + 4 = (Crc.sealed p).length) := by show _ = _; rw [Crc.sealed_length, L1.out]
  clear r2 b2
  go_wp2_with fail
  refine (within_any _ _ _ _ hat (by omega) (by omega) (by omega)).mono ?_
  rintro e u3 ⟨⟨bit', rfl, hi0, hi1⟩, rfl⟩
  obtain ⟨bit, rfl⟩ := Int.eq_ofNat_of_zero_le hi0
  have hbit : bit < 8 * (n + 4) := by omega
  clear hi0 hi1
  go_wp2_with fail
  go_loopw [9, 10] (fun t i wr => ∃ (k y : Nat) (xs : List UInt8), k ≤ 32 ∧ i = .int .i64 k ∧ t = .bool (decide (y ≠ 0)) ∧ Hid (Burst w w.heap.size w.heap.size (Crc.sealed p) xs [] bit k y wr)) (fun _ i _ => 32 - (intOf i).toNat)
  case atStart => exact ⟨0, 0, Crc.sealed p, by omega, rfl, rfl, Crc.Turned.start _ bit, HR2.out, HB2.out⟩
  case round =>
    clear HR2 HB2
    obtain ⟨k, y, xs, hk, rfl, rfl, HT⟩ := hrel
    by_cases hlt : k < 32
    · have hbt := bit_test burst k hbu
      by_cases hb : burst / 2 ^ k % 2 = 1
      · have hb1 : (bits .and .u32 ((burst : Int) / 2 ^ k) 1 == 1) = true := by rw [hbt, hb]; rfl
        clear hbt hb
        by_cases hin : bit + k < 8 * (n + 4)
        · have hj : (bit + k) / 8 < xs.length := by have := HT.out.1.len; have := LS.out; omega
          have hjn : (bit + k) / 8 < n + 4 := by omega
          have hcl := HT.out.cell _ hj
          have hfz := HT.out.2.1.frozen ((bit + k) / 8)
          have hxl := xs[(bit + k) / 8].toNat_lt
          obtain ⟨x, hx⟩ : ∃ x, xs[(bit + k) / 8] = x := ⟨_, rfl⟩
          rw [hx] at hcl hxl
          have HT' : Hid (Burst w w.heap.size w.heap.size (Crc.sealed p) (xs.set ((bit + k) / 8) (Crc.flipB x ((bit + k) % 8))) [] bit (k + 1) (2 ^ k + y) (wr.setCell ⟨w.heap.size, (bit + k) / 8, none⟩ (Value.int .u8 (bits .xor .u8 (x.toNat : Int) (2 ^ ((bit + k) % 8) % 256)))).drew) := HT.out.flip hg'.out hj hx
          clear hx HT hj
          have HP : Hid (Value.bool true = Value.bool (decide (2 ^ k + y ≠ 0))) := by rw [pow_ne]; rfl
          go_wp2
          go_region
          go_wp2
          go_roundw
          case rel => exact ⟨k + 1, 2 ^ k + y, _, by omega, by go_num, HP.out, HT'⟩
          case measure => simp [intOf]; omega
        · go_wp2
          go_roundw
          case rel => exact ⟨k + 1, y, xs, by omega, by go_num, by simp, HT.out.keep⟩
          case measure => simp [intOf]; omega
      · have hb1 : (bits .and .u32 ((burst : Int) / 2 ^ k) 1 == 1) = false := by rw [hbt, beq_eq_false_iff_ne]; omega
        clear hbt hb
        go_wp2
        go_roundw
        case rel => exact ⟨k + 1, y, xs, by omega, by go_num, by simp, HT.out.keep⟩
        case measure => simp [intOf]; omega
    · have LX : Hid (n + 4 = xs.length) := by show _ = _; rw [HT.out.1.len]; exact LS.out
      have hu : Hid (opens xs = decide (y = 0)) := by
        have h := HT.out.1
        have h2 := Crc.turned p xs bit y (by rw [← LX.out, L1.out]) h.sum (Nat.lt_of_lt_of_le h.small (by
          have : k = 32 := by omega
          subst this
          decide))
        show _ = _
        unfold opens
        rw [← LX.out, Bool.eq_iff_iff]
        simp [h2]
      have HB : Hid (Below w.heap.size w wr) := HT.out.2.2
      have HX : Hid (Seg wr (some ⟨w.heap.size, 0, none⟩) xs) := HT.out.2.1.seg
      clear HT
      go_wp2_with fail
      refine (open_seg xs _ _ _ _ LX.out (by omega) (by omega) (by omega) HX.out).mono ?_
      rintro e v1 ⟨ax, nx, cx, rfl, _, _, _, b1⟩
      rw [hu.out]
      have HB1 : Hid (Below w.heap.size w v1) := HB.out.trans (b1.mono HB.out.size)
      clear b1 HB HX hu
      go_wp2_with fail
      refine (runs_any _).mono ?_
      rintro e v3 ⟨rfl, b3⟩
      have HB3 : Hid (Below w.heap.size w v3) := HB1.out.trans (b3.mono HB1.out.size)
      clear b3 HB1
      go_wp2_with fail
      go_ret
      exact ⟨rfl, HB3.out⟩
theorem sumBursts_walk (a0 : Option Addr) (len0 cap0 : Nat) (z0 : List UInt8) (a1 a2 : Int) (w : World) (w0 : IsBytes w a0 len0 cap0 z0) (w1 : (Lit.int .i64 a1).wf = true) (w2 : (Lit.int .u32 a2).wf = true) :
    Calls Try.prog 7 #[.slice a0 len0 cap0, .int .i64 a1, .int .u32 a2] w fun e w' => e = .returned (.bool true) ∧ Below w.heap.size w w' := by
  obtain ⟨burst, rfl, hb⟩ := u32_in w2
  exact bursts_core a0 len0 cap0 z0 a1 burst w w0 (int_in w1) hb
end Go.Proofs.Ytehdhhmaijogbaa
