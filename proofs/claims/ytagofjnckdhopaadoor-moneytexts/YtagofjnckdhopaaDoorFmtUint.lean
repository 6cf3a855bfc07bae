/- CONTRACT OF strconv.FormatUint AT BASE 10; impostref3's Show. -/
import Derived.Test.YtagofjnckdhopaaDoorShow
import Derived.Test.YtagofjnckdhopaaDoorRefMoney
import Derived.Lib.ItoaMem
import Derived.Lib.Walk
import Derived.BigCall
import Derived.BigGuard
namespace Go.Proofs.YtagofjnckdhopaaDoor
open Go.RowKit Go.Sort Go.Lib

theorem holds_zero0 (w : World) (T : TypeId) (nd : Nat) (hs : nd ≤ 24) : Holds (fun (b : UInt8) => Value.int .u8 (b.toNat : Int)) (w.alloc (.cells Lib.zeros24 T)) w.heap.size 0 (Array.replicate nd (0 : UInt8)) := fun j hj => by
  have hj' : j < nd := by simpa using hj
  refine ⟨?_, World.frozen?_alloc_new _ _ _ _⟩
  rw [World.cell?_alloc_new, Lib.zeros24_at _ (by omega), getElem!_pos _ j hj]
  simp
theorem fin_new (w : World) (o : Obj) (dk : Array UInt8) (k : Nat) : ∃ os, (putRow (fun (b : UInt8) => Value.int .u8 (b.toNat : Int)) (w.alloc o) w.heap.size 0 dk).drewN k = grow (w.drewN k) os := by
  rw [alloc_eq_grow]
  obtain ⟨os', _, e⟩ := putRow_grow_new (fun (b : UInt8) => Value.int .u8 (b.toNat : Int)) w #[o] w.heap.size 0 dk (Nat.le_refl _)
  exact ⟨os', by rw [e]; rfl⟩
theorem len24 : Tryd.prog.arrayLen 46 = 24 := by kernel_rfl
set_option maxHeartbeats 6400000 in
set_option maxRecDepth 100000 in
theorem fmtUint_big (u : Nat) (h100 : 100 ≤ u) (hu64 : u < 18446744073709551616) (w : World) (htab : Tab w) :
    Calls Tryd.prog 31 #[.int .u64 u, .int .i64 10] w fun e w' => e = .returned (.string ⟨(Lib.decDigits u).toArray⟩) ∧ Below w.heap.size w w' := by
  have hu1 : 1 ≤ u := by omega
  have hnd20 : Lib.nDigits u ≤ 20 := by have := Lib.numDigits_eq u hu1 hu64; split at this <;> omega
  have hsl1 : ∀ W, (Instr.sliceAt 46 (.pointer (some ⟨w.heap.size, 0, none⟩)) none (some (.int .i64 (Lib.nDigits u : Int))) none).run Tryd.prog W = .ok (.slice (some ⟨w.heap.size, 0, none⟩) (Lib.nDigits u) 24) W := fun W => by
    rw [run_sliceAt_array_h W 46 ⟨w.heap.size, 0, none⟩ (by simp [Program.arrayLen, Program.elem, Tryd.underlying46]) .i64 (Lib.nDigits u : Int) (by omega) (by rw [len24]; omega), len24]
    have t24 := Tryd.underlying46
    have z5 := Tryd.sizeOf5
    have e5 : Tryd.prog.elem 46 = 5 := by simp [Program.elem, t24]
    rw [e5]
    go_simp
  have hH0 := holds_zero0 w 46 (Lib.nDigits u) (by omega)
  have hfmt := Tryd.internal_strconv_formatBase10 w.heap.size 0 24 u (Array.replicate (Lib.nDigits u) 0) (w.alloc (.cells Lib.zeros24 46)) hH0 (by rw [Array.size_replicate]; exact Lib.lt_pow_nDigits u) hu64 (by rw [Array.size_replicate]; omega)
  rw [Array.size_replicate] at hfmt
  have HH0 := Lib.hid hH0
  have HT := Lib.hid htab
  clear hH0 htab
  go_enter Tryd.func31, Tryd.ntmps31
  go_wp2_with fail
  refine (Tryd.internal_strconv_numDigits u hu1 hu64 _ (Lib.tabIs_alloc HT.out _)).mono ?_
  rintro e w1 ⟨rfl, hw1⟩
  subst hw1
  go_wp2_with fail
  refine hfmt.mono ?_
  rintro e w2 ⟨rfl, k, v', dk, rfl, hF⟩
  have hcv : (convert 49 9 (.slice (some ⟨w.heap.size, 0, none⟩) (Lib.nDigits u) 24)).run Tryd.prog ((putRow (fun (b : UInt8) => Value.int .u8 (b.toNat : Int)) (w.alloc (.cells Lib.zeros24 46)) w.heap.size 0 dk).drewN k) = .ok (.string ⟨(Lib.decDigits u).toArray⟩) ((putRow (fun (b : UInt8) => Value.int .u8 (b.toNat : Int)) (w.alloc (.cells Lib.zeros24 46)) w.heap.size 0 dk).drewN k) := by
    have h := run_convert_bytes_back (P := Tryd.prog) ((putRow (fun (b : UInt8) => Value.int .u8 (b.toNat : Int)) (w.alloc (.cells Lib.zeros24 46)) w.heap.size 0 dk).drewN k) 49 9 5 ⟨w.heap.size, 0, none⟩ 24 (Lib.decDigits u) Tryd.underlying49 Tryd.underlying5 Tryd.underlying9 (fun j hj => by
      rw [Lib.row_is_numeral hF j hj, Lib.add_plain, World.cell?_drewN]
      exact cell?_putRow (fun (b : UInt8) => Value.int .u8 (b.toNat : Int)) _ w.heap.size 0 _ dk HH0.out (by rw [hF.size, Array.size_replicate]) j (by rw [hF.size]; rw [Lib.decDigits_length] at hj; exact hj))
    rw [Lib.decDigits_length] at h
    exact h
  have HB : Hid (Below w.heap.size w ((putRow (fun (b : UInt8) => Value.int .u8 (b.toNat : Int)) (w.alloc (.cells Lib.zeros24 46)) w.heap.size 0 dk).drewN k)) := by
    obtain ⟨os, eo⟩ := fin_new w (.cells Lib.zeros24 46) dk k
    rw [eo]
    exact below_grow w k os
  clear HH0 hF
  generalize (putRow (fun (b : UInt8) => Value.int .u8 (b.toNat : Int)) (w.alloc (.cells Lib.zeros24 46)) w.heap.size 0 dk).drewN k = W at *
  go_wp2_with fail
  go_ret
  exact ⟨rfl, HB.out⟩
theorem fmtUint_small (u : Nat) (h100 : u < 100) (w : World) :
    Calls Tryd.prog 31 #[.int .u64 u, .int .i64 10] w fun e w' => e = .returned (.string ⟨(Lib.decDigits u).toArray⟩) ∧ w' = w := by
  have h100' : (u : Int) < 100 := by omega
  go_enter Tryd.func31, Tryd.ntmps31
  go_wp2_with fail
  refine (Tryd.internal_strconv_small u h100 _).mono ?_
  rintro e w1 ⟨rfl, hw1⟩
  subst hw1
  go_wp2_with fail
  go_ret
  exact ⟨rfl, rfl⟩
theorem fmtUint_any (u : Nat) (hu64 : u < 18446744073709551616) (w : World) (ht : Tab w) :
    Calls Tryd.prog 27 #[.int .u64 u, .int .i64 10] w fun e w' => e = .returned (.string ⟨(Lib.decDigits u).toArray⟩) ∧ Below w.heap.size w w' := by
  have h : Calls Tryd.prog 31 #[.int .u64 u, .int .i64 10] w fun e w' => e = .returned (.string ⟨(Lib.decDigits u).toArray⟩) ∧ Below w.heap.size w w' := by
    by_cases h100 : u < 100
    · exact (fmtUint_small u h100 w).mono fun _ _ ⟨h1, h2⟩ => ⟨h1, by rw [h2]; exact Below.refl _ _⟩
    · exact fmtUint_big u (by omega) hu64 w ht
  clear ht
  go_enter Tryd.func27, Tryd.ntmps27
  go_wp2_with fail
  refine h.mono ?_
  rintro e w1 ⟨rfl, b1⟩
  have HB := Lib.hid b1
  clear b1 h
  go_wp2_with fail
  go_ret
  exact ⟨rfl, HB.out⟩
theorem dec_len_le (u : Nat) (hu64 : u < 18446744073709551616) : (Lib.decDigits u).length ≤ 20 := by
  rw [Lib.decDigits_length]
  exact Lib.nDigits_le20 u hu64
theorem uint_gen (n : Int) (w0 w : World) (h0 : 0 ≤ n) (h1 : n < 18446744073709551616) (ht : Tab w0) (hb : Below w0.heap.size w0 w) :
    Calls Tryd.prog 27 #[.int .u64 n, .int .i64 10] w fun e w' => (∃ x : ByteArray, e = .returned (.string x) ∧ txt x = Lib.decDigits n.toNat ∧ x.size ≤ 20) ∧ Below w0.heap.size w0 w' := by
  obtain ⟨u, rfl⟩ : ∃ u : Nat, n = u := ⟨n.toNat, by omega⟩
  exact (fmtUint_any u (by omega) w (ht.below hb)).mono fun _ _ ⟨h2, h3⟩ => ⟨⟨_, h2, rfl, by rw [size_mk]; exact dec_len_le u (by omega)⟩, hb.trans (h3.mono hb.size)⟩
theorem udigit_gen (n : Int) (w0 w : World) (h0 : 0 ≤ n) (h1 : n < 10) (ht : Tab w0) (hb : Below w0.heap.size w0 w) :
    Calls Tryd.prog 27 #[.int .u64 n, .int .i64 10] w fun e w' => (∃ x : ByteArray, e = .returned (.string x) ∧ txt x = [UInt8.ofNat (48 + n.toNat)] ∧ x.size = 1) ∧ Below w0.heap.size w0 w' :=
  (uint_gen n w0 w h0 (by omega) ht hb).mono fun _ _ ⟨⟨x, h2, h3, _⟩, h5⟩ => ⟨⟨x, h2, by rw [h3, Lib.decDigits_one (by omega)], by rw [← txt_len, h3, Lib.decDigits_one (by omega)]; rfl⟩, h5⟩
set_option maxHeartbeats 2000000 in
theorem refShow_any (n : Int) (w : World) (hn : Mn.Fit n) (ht : Tab w) :
    Calls Tryd.prog 20 #[.int .i64 n] w fun e w' => (∃ x : ByteArray, e = .returned (.string x) ∧ txt x = Mn.shown n ∧ x.size ≤ 25) ∧ Below w.heap.size w w' := by
  have HT := Lib.hid ht
  have HN := Lib.hid hn
  obtain ⟨hn0, hn1⟩ := hn
  clear ht
  have hu : n.natAbs ≤ 9223372036854775808 := by omega
  go_enter Tryd.func20, Tryd.ntmps20
  go_wp2_with fail
  refine (size_any n _ HN.out).mono ?_
  rintro e w0 ⟨rfl, hw0⟩
  subst hw0
  obtain ⟨u, hu2⟩ : ∃ u : Nat, n.natAbs = u := ⟨_, rfl⟩
  rw [hu2] at hu ⊢
  go_wp2_with fail
  refine (uint_gen _ w0 _ (by omega) (by omega) HT.out (Below.refl _ _)).mono ?_
  rintro e w1 ⟨⟨x1, rfl, hx1, hs1⟩, b1⟩
  have HB1 := Lib.hid b1
  obtain ⟨t1, _, ht1, hz1, hadd1⟩ := add_run x1 ⟨#[46]⟩ (by rw [size46]; omega)
  have HX1 : Hid (txt t1 = Lib.decDigits (u / 100) ++ [46] ∧ t1.size ≤ 21) := by
    refine ⟨by rw [ht1, hx1, txt46]; congr 2, by rw [hz1, size46]; omega⟩
  clear b1 hx1 ht1 hz1 hs1
  go_wp2_with fail
  refine (udigit_gen _ w0 _ (by omega) (by omega) HT.out HB1.out).mono ?_
  rintro e w2 ⟨⟨x2, rfl, hx2, hs2⟩, b2⟩
  have HB2 := Lib.hid b2
  obtain ⟨t2, _, ht2, hz2, hadd2⟩ := add_run t1 x2 (by have := HX1.out.2; omega)
  have HX2 : Hid (txt t2 = (Lib.decDigits (u / 100) ++ [46]) ++ [UInt8.ofNat (48 + u % 100 / 10)] ∧ t2.size ≤ 22) := by
    refine ⟨by rw [ht2, hx2, HX1.out.1]; congr 4, by have := HX1.out.2; omega⟩
  clear b2 hx2 ht2 hz2 hs2 HB1 HX1
  go_wp2_with fail
  refine (udigit_gen _ w0 _ (by omega) (by omega) HT.out HB2.out).mono ?_
  rintro e w3 ⟨⟨x3, rfl, hx3, hs3⟩, b3⟩
  have HB3 := Lib.hid b3
  obtain ⟨t3, _, ht3, hz3, hadd3⟩ := add_run t2 x3 (by have := HX2.out.2; omega)
  have HX3 : Hid (txt t3 = Mn.bare u) := by
    show _ = _
    rw [ht3, hx3, HX2.out.1, Mn.bare, Mn.two, List.append_assoc, List.append_assoc]
    congr 6
  have hz3' : t3.size ≤ 23 := by have := HX2.out.2; omega
  clear b3 hx3 ht3 hz3 hs3 HB2 HX2
  by_cases h : n < 0
  · obtain ⟨t, _, ht, hz, hadd⟩ := add_run ⟨#[45]⟩ t3 (by rw [size45]; omega)
    have HX : Hid (txt t = Mn.shown n ∧ t.size ≤ 25) := by
      refine ⟨by rw [ht, HX3.out, txt45, Mn.shown, if_pos h, hu2], by rw [hz, size45]; omega⟩
    clear ht hz
    go_wp2_with fail
    go_ret
    exact ⟨⟨t, rfl, HX.out.1, HX.out.2⟩, HB3.out⟩
  · have HX : Hid (txt t3 = Mn.shown n ∧ t3.size ≤ 25) := by
      refine ⟨by rw [HX3.out, Mn.shown, if_neg h, hu2]; rfl, by omega⟩
    go_wp2_with fail
    go_ret
    exact ⟨⟨t3, rfl, HX.out.1, HX.out.2⟩, HB3.out⟩
end Go.Proofs.YtagofjnckdhopaaDoor
