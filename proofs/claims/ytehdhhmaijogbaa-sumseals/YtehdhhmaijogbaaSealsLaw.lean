/- THE WALK OF SumSeals. -/
import Derived.Test.YtehdhhmaijogbaaRuns
import Derived.Test.YtehdhhmaijogbaaRefSeal
import Derived.Test.YtehdhhmaijogbaaRoomy
import Derived.Test.YtehdhhmaijogbaaArgs
namespace Go.Proofs.Ytehdhhmaijogbaa
open Go.RowKit

theorem refOpen_seg (bs : List UInt8) (ao : Option Addr) (n cap : Nat) (w : World) (hn : n = bs.length) (hl : n ≤ 140737488355332) (hcap : n ≤ cap) (hcap2 : cap ≤ 9223372036854775807) (hs : Seg w ao bs) :
    Calls Try.prog 18 #[.slice ao n cap] w fun e w' => ∃ ax nx cx, e = .returned (.tuple #[.slice ax nx cx, .bool (opens bs)]) ∧ nx = (inner bs).length ∧ nx ≤ n ∧ Seg w' ax (inner bs) ∧ Below w.heap.size w w' := by
  refine (refOpen_any bs ao n cap w hn hl hcap hcap2 hs).mono fun e w' ⟨hb, h⟩ => ?_
  subst hn
  rcases h with ⟨hg, g, cp, spare, he, hge, hr⟩ | ⟨hg, he⟩
  · have ho : opens bs = true := hg
    refine ⟨_, _, _, by rw [ho]; exact he, ?_, by omega, ?_, hb⟩
    · simp only [inner, ho, if_true, List.length_take]
      omega
    · simp only [inner, ho, if_true]
      exact hr.seg
  · have ho : opens bs = false := hg
    refine ⟨_, _, _, by rw [ho]; exact he, ?_, by omega, ?_, hb⟩
    · simp [inner, ho]
    · simp only [inner, ho]
      exact .inl rfl
theorem set_bv (xs : List UInt8) (k : Nat) (y : UInt8) : (xs.map bv).set k (bv y) = (xs.set k y).map bv := by
  rw [List.map_set]
theorem turn_bv (x : UInt8) : Value.int .u8 (255 - (x.toNat : Int)) = bv (UInt8.ofNat (255 - x.toNat)) := by
  have := x.toNat_lt
  unfold bv
  congr 1
  rw [UInt8.toNat_ofNat']
  omega
set_option maxHeartbeats 4000000 in
theorem seals_core (a1 : Option Addr) (n cap1 : Nat) (p : List UInt8) (a2 : Option Addr) (m cap2 : Nat) (q : List UInt8) (w : World) (w1 : IsBytes w a1 n cap1 p) (w2 : IsBytes w a2 m cap2 q) :
    Calls Try.prog 6 #[.slice a1 n cap1, .slice a2 m cap2] w fun e w' => e = .returned (.bool true) ∧ Below w.heap.size w w' := by
  have hl1 : n ≤ 140737488351232 := Nat.le_trans w1.fits w1.reach
  have hl2 : m ≤ 140737488351232 := Nat.le_trans w2.fits w2.reach
  have hm2 : Hid (m ≤ cap2) := w2.fits
  have hr2 : Hid (cap2 ≤ 140737488351232) := w2.reach
  have HL1 : Hid (a1 = none → cap1 = 0) := w1.nil
  have L1 : Hid (n = p.length) := w1.len
  have L2 : Hid (m = q.length) := w2.len
  have S1 : Hid (Seg w a1 p) := w1.seg
  have S2 : Hid (Seg w a2 q) := w2.seg
  clear w1 w2
  go_enter Try.func6, Try.ntmps6
  go_wp2_with fail
  refine (roomy_any p 17 _ _ _ _ L1.out (by omega) S1.out).mono ?_
  rintro e u1 ⟨rfl, r1, b1⟩
  have HB1 : Hid (Below w.heap.size w u1) := b1
  have HR1 : Hid (Row u1 w.heap.size (p.map bv ++ List.replicate 80 (bv 17))) := r1
  have hz1 : w.heap.size < u1.heap.size := r1.lt
  clear r1 b1
  go_wp2_with fail
  refine (seal_any p _ _ _ _ L1.out (by omega) HR1.out.seg).mono ?_
  rintro e u2 ⟨rfl, r2, b2⟩
  have HB2 : Hid (Below w.heap.size w u2) := HB1.out.trans (b2.mono (by omega))
  have HR2 : Hid (Row u2 w.heap.size (p.map bv ++ List.replicate 80 (bv 17))) := HR1.out.keep b2
  have HQ2 : Hid (Row u2 u1.heap.size ((Crc.sealed p).map bv)) := r2
  clear r2 b2 HB1 HR1
  generalize u1.heap.size = gs at *
  go_wp2_with fail
  refine (open_seg q _ _ _ _ L2.out (by omega) hm2.out (by have := hr2.out; omega) (S2.out.below HB2.out)).mono ?_
  rintro e u3 ⟨ax, nx, cx, rfl, hnx, hnl, sx, b3⟩
  have HB3 : Hid (Below w.heap.size w u3) := HB2.out.trans (b3.mono HB2.out.size)
  have HR3 : Hid (Row u3 w.heap.size (p.map bv ++ List.replicate 80 (bv 17))) := HR2.out.keep b3
  have HQ3 : Hid (Row u3 gs ((Crc.sealed p).map bv)) := HQ2.out.keep b3
  have HX3 : Hid (Seg u3 ax (inner q)) := sx
  have LX : Hid (nx = (inner q).length) := hnx
  clear b3 HB2 HR2 HQ2 sx hnx
  go_wp2_with fail
  refine (refOpen_seg q _ _ _ _ L2.out (by omega) hm2.out (by have := hr2.out; omega) (S2.out.below HB3.out)).mono ?_
  rintro e u4 ⟨ay, ny, cy, rfl, hny, hnyl, sy, b4⟩
  have HB4 : Hid (Below w.heap.size w u4) := HB3.out.trans (b4.mono HB3.out.size)
  have HR4 : Hid (Row u4 w.heap.size (p.map bv ++ List.replicate 80 (bv 17))) := HR3.out.keep b4
  have HQ4 : Hid (Row u4 gs ((Crc.sealed p).map bv)) := HQ3.out.keep b4
  have HX4 : Hid (Seg u4 ax (inner q)) := HX3.out.below b4
  have HY4 : Hid (Seg u4 ay (inner q)) := sy
  have LY : Hid (ny = (inner q).length) := hny
  clear b4 HB3 HR3 HQ3 HX3 sy hny
  go_wp2_with fail
  refine (refSeal_any p _ _ _ _ L1.out hl1 HL1.out (S1.out.below HB4.out)).mono ?_
  rintro e u5 ⟨g5, cp5, spare5, rfl, hg5, r5, b5⟩
  have HB5 : Hid (Below w.heap.size w u5) := HB4.out.trans (b5.mono HB4.out.size)
  have HR5 : Hid (Row u5 w.heap.size (p.map bv ++ List.replicate 80 (bv 17))) := HR4.out.keep b5
  have HQ5 : Hid (Row u5 gs ((Crc.sealed p).map bv)) := HQ4.out.keep b5
  have HX5 : Hid (Seg u5 ax (inner q)) := HX4.out.below b5
  have HY5 : Hid (Seg u5 ay (inner q)) := HY4.out.below b5
  have HZ5 : Hid (Row u5 g5 ((Crc.sealed p).map bv ++ spare5)) := r5
  clear b5 HB4 HR4 HQ4 HX4 HY4 r5
  go_wp2_with fail
  have LS : Hid (n + 4 = (Crc.sealed p).length) := by show _ = _; rw [Crc.sealed_length, L1.out]
  refine (same_any (Crc.sealed p) (Crc.sealed p) _ _ _ _ _ _ _ LS.out LS.out (by omega) (by omega) HQ5.out.seg' HZ5.out.seg).mono ?_
  rw [show decide (Crc.sealed p = Crc.sealed p) = true from by simp]
  rintro e u6 ⟨rfl, b6⟩
  have HB6 : Hid (Below w.heap.size w u6) := HB5.out.trans (b6.mono HB5.out.size)
  have HR6 : Hid (Row u6 w.heap.size (p.map bv ++ List.replicate 80 (bv 17))) := HR5.out.keep b6
  have HQ6 : Hid (Row u6 gs ((Crc.sealed p).map bv)) := HQ5.out.keep b6
  have HX6 : Hid (Seg u6 ax (inner q)) := HX5.out.below b6
  have HY6 : Hid (Seg u6 ay (inner q)) := HY5.out.below b6
  clear b6 HB5 HR5 HQ5 HX5 HY5 HZ5
  go_wp2_with fail
  refine (same_any (inner q) (inner q) _ _ _ _ _ _ _ LX.out LY.out (by omega) (by omega) HX6.out HY6.out).mono ?_
  rw [show decide (inner q = inner q) = true from by simp]
  rintro e u7 ⟨rfl, b7⟩
  have HB7 : Hid (Below w.heap.size w u7) := HB6.out.trans (b7.mono HB6.out.size)
  have HR7 : Hid (Row u7 w.heap.size (p.map bv ++ List.replicate 80 (bv 17))) := HR6.out.keep b7
  have HQ7 : Hid (Row u7 gs ((Crc.sealed p).map bv)) := HQ6.out.keep b7
  clear b7 HB6 HR6 HQ6 HX6 HY6
  have hbb : (opens q != opens q) = false := by simp
  go_wp2_with fail
  refine (open_good (Crc.sealed p) gs 0 n (n + 4) u7 LS.out (by omega) (by omega) (by omega) HQ7.out.seg' (Crc.good_sealed p)).mono ?_
  rintro e u8 ⟨ga, rfl, hga, r8, b8⟩
  have hz7 := HQ7.out.lt
  have hz7w := HR7.out.lt
  have HB8 : Hid (Below w.heap.size w u8) := HB7.out.trans (b8.mono HB7.out.size)
  have HR8 : Hid (Row u8 w.heap.size (p.map bv ++ List.replicate 80 (bv 17))) := HR7.out.keep b8
  have HQ8 : Hid (Row u8 gs ((Crc.sealed p).map bv)) := HQ7.out.keep b8
  have HA8 : Hid (Row u8 ga (p.map bv)) := by
    have h := r8
    rw [show (Crc.sealed p).take n = p from by rw [L1.out]; unfold Crc.sealed; exact List.take_left] at h
    exact h
  have hgs : gs < ga := by omega
  have hgw : w.heap.size < ga := by omega
  have hgg : w.heap.size < gs := by omega
  clear b8 r8 HB7 HR7 HQ7 hga hz7 hz7w
  go_wp2_with fail
  refine (same_any p p _ _ _ _ _ _ _ L1.out L1.out (by omega) (by omega) HA8.out.seg' (S1.out.below HB8.out)).mono ?_
  rw [show decide (p = p) = true from by simp]
  rintro e u9 ⟨rfl, b9⟩
  have HB9 : Hid (Below w.heap.size w u9) := HB8.out.trans (b9.mono HB8.out.size)
  have HR9 : Hid (Row u9 w.heap.size (p.map bv ++ List.replicate 80 (bv 17))) := HR8.out.keep b9
  have HQ9 : Hid (Row u9 gs ((Crc.sealed p).map bv)) := HQ8.out.keep b9
  have HA9 : Hid (Row u9 ga (p.map bv)) := HA8.out.keep b9
  clear b9 HB8 HR8 HQ8 HA8
  go_wp2_with fail
  go_loopw [14] (fun i wr => ∃ (k : Nat) (xs : List UInt8), k ≤ n ∧ i = .int .i64 k ∧ Hid (xs.length = n ∧ Row wr ga (xs.map bv) ∧ Row wr gs ((Crc.sealed p).map bv) ∧ Row wr w.heap.size (p.map bv ++ List.replicate 80 (bv 17)) ∧ Below w.heap.size w wr)) (fun i _ => n - (intOf i).toNat)
  case atStart => exact ⟨0, p, Nat.zero_le _, rfl, L1.out.symm, HA9.out, HQ9.out, HR9.out, HB9.out⟩
  case round =>
    clear HB9 HR9 HQ9 HA9
    obtain ⟨k, xs, hk, rfl, HT⟩ := hrel
    by_cases hlt : k < n
    · have hkl : k < xs.length := by have := HT.out.1; omega
      have hc : wr.cell? ⟨ga, k, none⟩ = some (.int .u8 (xs[k].toNat : Int)) := by
        rw [HT.out.2.1.cell k (by simpa using hkl)]
        simp [bv]
      have hfz := HT.out.2.1.frozen k
      have hxl := xs[k].toNat_lt
      have HV := turn_bv xs[k]
      generalize xs[k] = x at *
      have HV' : Hid (Value.int .u8 (255 - (x.toNat : Int)) = bv (UInt8.ofNat (255 - x.toNat))) := HV
      clear HV
      go_wp2
      go_roundw
      case rel =>
        obtain ⟨h1, h2, h3, h4, h5⟩ := HT.out
        rw [HV'.out]
        exact ⟨k + 1, xs.set k _, by omega, by go_num, by simpa using h1, by rw [← set_bv]; exact h2.set k _, (heap_setCell_other _ _ _ _ (by show _ ≠ ga; omega)).trans h3, (heap_setCell_other _ _ _ _ (by show _ ≠ ga; omega)).trans h4, h5.setCell (by show _ ≤ ga; omega) _⟩
      case measure => simp [intOf]; omega
    · obtain ⟨_, _, r3, r4, r5⟩ := HT.out
      have HQ : Hid (Row wr gs ((Crc.sealed p).map bv)) := r3
      have HR : Hid (Row wr w.heap.size (p.map bv ++ List.replicate 80 (bv 17))) := r4
      have HB : Hid (Below w.heap.size w wr) := r5
      clear r3 r4 r5 HT
      go_wp2
      go_loopw [15] (fun i wr => ∃ (k : Nat) (xs : List UInt8), k ≤ n + 4 ∧ i = .int .i64 k ∧ Hid (xs.length = n + 4 ∧ Row wr gs (xs.map bv) ∧ Row wr w.heap.size (p.map bv ++ List.replicate 80 (bv 17)) ∧ Below w.heap.size w wr)) (fun i _ => n + 4 - (intOf i).toNat)
      case atStart => exact ⟨0, Crc.sealed p, Nat.zero_le _, rfl, LS.out.symm, HQ.out, HR.out, HB.out⟩
      case round =>
        clear HB HR HQ
        obtain ⟨k, xs, hk, rfl, HT⟩ := hrel
        by_cases hlt : k < n + 4
        · have hkl : k < xs.length := by have := HT.out.1; omega
          have hc : wr.cell? ⟨gs, k, none⟩ = some (.int .u8 (xs[k].toNat : Int)) := by
            rw [HT.out.2.1.cell k (by simpa using hkl)]
            simp [bv]
          have hfz := HT.out.2.1.frozen k
          have hxl := xs[k].toNat_lt
          have HV := turn_bv xs[k]
          generalize xs[k] = x at *
          have HV' : Hid (Value.int .u8 (255 - (x.toNat : Int)) = bv (UInt8.ofNat (255 - x.toNat))) := HV
          clear HV
          go_wp2
          go_roundw
          case rel =>
            obtain ⟨h1, h2, h4, h5⟩ := HT.out
            rw [HV'.out]
            exact ⟨k + 1, xs.set k _, by omega, by go_num, by simpa using h1, by rw [← set_bv]; exact h2.set k _, (heap_setCell_other _ _ _ _ (by show _ ≠ gs; omega)).trans h4, h5.setCell (by show _ ≤ gs; omega) _⟩
          case measure => simp [intOf]; omega
        · obtain ⟨_, _, r4, r5⟩ := HT.out
          have HR : Hid (Row wr w.heap.size (p.map bv ++ List.replicate 80 (bv 17))) := r4
          have HB : Hid (Below w.heap.size w wr) := r5
          clear r4 r5 HT
          go_wp2_with fail
          refine (intact_any p 17 _ _ _ _ _ L1.out (by omega) (S1.out.below HB.out) HR.out).mono ?_
          rintro e v1 ⟨rfl, b1⟩
          have HB1 : Hid (Below w.heap.size w v1) := HB.out.trans (b1.mono HB.out.size)
          clear b1 HB HR
          go_wp2_with fail
          refine (runs_any _).mono ?_
          rintro e v2 ⟨rfl, b2⟩
          have HB2 : Hid (Below w.heap.size w v2) := HB1.out.trans (b2.mono HB1.out.size)
          clear b2 HB1
          go_wp2_with fail
          go_ret
          exact ⟨rfl, HB2.out⟩
theorem sumSeals_walk (a0 : Option Addr) (len0 cap0 : Nat) (z0 : List UInt8) (a1 : Option Addr) (len1 cap1 : Nat) (z1 : List UInt8) (w : World) (w0 : IsBytes w a0 len0 cap0 z0) (w1 : IsBytes w a1 len1 cap1 z1) :
    Calls Try.prog 6 #[.slice a0 len0 cap0, .slice a1 len1 cap1] w fun e w' => e = .returned (.bool true) ∧ Below w.heap.size w w' :=
  seals_core a0 len0 cap0 z0 a1 len1 cap1 z1 w w0 w1
end Go.Proofs.Ytehdhhmaijogbaa
