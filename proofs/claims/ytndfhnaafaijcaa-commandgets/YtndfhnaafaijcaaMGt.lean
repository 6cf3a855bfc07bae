/- MERGED: RefPk, RefRdr, RefRdw, RefRdt. (By mg.py.) -/
import Derived.Test.YtndfhnaafaijcaaMGa
import Derived.Lib.AppendStr
import Derived.Test.YtndfhnaafaijcaaMGb
/- THE DOCUMENT's OWN ANSWER: impostref1's Num, Text. -/
namespace Go.Proofs.Ytndfhnaafaijcaa
open Go.RowKit
open Mem Pk

theorem xor_flip (x y : Int) (h1 : 0 ≤ x) (h2 : x < 18446744073709551616) (h3 : 0 ≤ y) (h4 : y < 18446744073709551616) : bits .xor .u64 x y = bits .xor .u64 y x := by
  rw [u64_xor x y h1 h2 h3 h4, u64_xor y x h3 h4 h1 h2, Nat.xor_comm]
/-- what is folded as the document has it -/
theorem ref_fold_neg (n : Int) (hn : Fit n) (h : n < 0) : bits .xor .u64 (IntKind.u64.wrap (IntKind.u64.wrap n * 2)) 18446744073709551615 = (zz n : Int) := by
  have hz := Lib.zigzag_neg hn.1 h
  rw [← zz_lib] at hz
  have e1 : 0 ≤ IntKind.u64.wrap (IntKind.u64.wrap n * 2) ∧ IntKind.u64.wrap (IntKind.u64.wrap n * 2) < 18446744073709551616 := by
    rw [IntKind.wrap_u64]
    omega
  rw [xor_flip _ _ e1.1 e1.2 (by omega) (by omega), ← hz]
  rfl
theorem ref_fold_pos (x : Int) (h1 : 0 ≤ x) (h2 : x < 18446744073709551616) : bits .xor .u64 x 0 = x := by
  rw [u64_xor x 0 h1 h2 (by omega) (by omega)]
  simp
  omega
set_option maxHeartbeats 2000000 in
theorem ref_num (bs : List UInt8) (n : Int) (hn : Fit n) (ao : Option Addr) (m cap : Nat) (w : World) (hL : By.Ls w ao m cap bs) (hm : m ≤ 1000000000000) :
    Calls Try.prog 39 #[.slice ao m cap, .int .i64 n] w fun e w' => (∃ sv, e = .returned sv ∧ By.Own w' w.heap.size sv (bs ++ vb (zz n))) ∧ Below w.heap.size w w' := by
  have HF := Lib.hid hn
  have HL := Lib.hid hL
  have HLen := Lib.hid hL.len
  have hcap := hL.reach
  have hbx := (Below.refl w.heap.size w).alloc (Nat.le_refl _) (.cells #[] 5)
  have HBx := Lib.hid hbx
  have hr1 : n ≤ 9223372036854775807 := hn.2
  have hr2 : -9223372036854775808 ≤ n := hn.1
  clear hL hn hbx
  obtain ⟨u, hu⟩ : ∃ u, zz n = u := ⟨_, rfl⟩
  have HUl : Hid (u < 18446744073709551616) := Lib.hid (hu ▸ zz_lt HF.out)
  by_cases hneg : n < 0
  · have hfold := ref_fold_neg n HF.out hneg
    rw [hu] at hfold ⊢
    have hsr : n / 9223372036854775808 = -1 := by omega
    rw [show (18446744073709551615 : Int) = IntKind.u64.wrap (-1) by decide] at hfold
    clear hu
    go_enter Try.func39, Try.ntmps39
    go_wp2_with (at_builtin; go_must (refine By.wpList_append _ rfl (.tmp 7) (.tmp 8) rfl w.heap.size (.slice (some ⟨w.heap.size, 0, none⟩) 0 0) [] rfl (By.own_empty (Nat.le_refl _) (heap_alloc_new w _)) ao m cap bs rfl HLen.out HL.out.nil ((HL.out.below HBx.out).seg) (by simp only [List.length_nil]; omega) (by simp) ?_))
    intro v1 y1 o1 gr1 _
    have HO1 := Lib.hid o1
    have HB1 := Lib.hid (HBx.out.grown gr1 HBx.out.size (fun k hk => by cases hk; exact Nat.le_refl _))
    clear o1 gr1
    go_wp2
    clear hfold hneg
    go_loopw [5, 6] (fun ov x wr => ∃ (i v : Nat) (sv : Value) (pre : List UInt8), sv = ov ∧ x = .int .u64 (v : Int) ∧ i ≤ 9 ∧ Hid (v < 18446744073709551616 ∧ v < lim (i + 1)) ∧ Hid (pre.length = i) ∧ Hid (vb u = pre ++ vbF (10 - i) v) ∧ Hid (By.Own wr w.heap.size sv (bs ++ pre)) ∧ Hid (Below w.heap.size w wr)) (fun _ x _ => (intOf x).toNat)
    case atStart => exact ⟨0, u, v1, [], rfl, rfl, by omega, Lib.hid ⟨HUl.out, by rw [lim_one]; exact HUl.out⟩, Lib.hid rfl, Lib.hid rfl, Lib.hid (by simpa using HO1.out), HB1⟩
    case round =>
      obtain ⟨i, v, sv, pre, rfl, rfl, hi, HV, HPl, HVb, HO, HB⟩ := hrel
      have hsw := HB.out.size
      have HOa : Hid (∀ o, By.Own (wr.alloc o) w.heap.size sv (bs ++ pre)) := fun o => By.own_alloc HO.out o
      have HLl : Hid ((bs ++ pre).length ≤ 1000000000010) := Lib.hid (by rw [List.length_append, ← HLen.out, HPl.out]; omega)
      by_cases hs : v < 128
      · have hw8 : IntKind.u8.wrap (v : Int) = (v : Int) := by
          rw [IntKind.wrap_u8]
          omega
        have HE : Hid (vb u = pre ++ [UInt8.ofNat v]) := Lib.hid (by rw [HVb.out, show 10 - i = (9 - i) + 1 by omega, vbF_low hs])
        have a1 : ¬ (128 : Int) ≤ (v : Int) := by omega
        go_wp2_with (at_builtin; go_must (refine By.wpList_append _ rfl (.tmp 28) (.tmp 31) rfl w.heap.size sv (bs ++ pre) rfl (HOa.out _) (some ⟨wr.heap.size, 0, none⟩) 1 1 [UInt8.ofNat v] rfl rfl (fun h => by cases h) (By.seg_one (heap_alloc_new wr _) (by unfold By.bv; rw [byte_nat (by omega)])) (by have := HLl.out; omega) (by simp; omega) ?_))
        intro v2 y2 o2 gr2 _
        have hbx := (Below.refl wr.heap.size wr).alloc (Nat.le_refl _) (.cells #[.int .u8 (v : Int)] 5)
        have HB2 := Lib.hid ((bchain HB.out hbx).grown gr2 (bchain HB.out hbx).size (By.own_ge HO.out))
        have HO2 := Lib.hid o2
        clear o2 gr2 hbx
        go_wp2
        go_ret
        refine ⟨⟨v2, rfl, ?_⟩, HB2.out⟩
        rw [HE.out]
        exact HO2.out
      · obtain ⟨r, hr⟩ : ∃ r, v % 128 = r := ⟨_, rfl⟩
        obtain ⟨q, hq⟩ : ∃ q, v / 128 = q := ⟨_, rfl⟩
        have hr128 : r < 128 := by omega
        have hand := and127 v HV.out.1
        rw [hr] at hand
        have hw8 : IntKind.u8.wrap (r : Int) = (r : Int) := by
          rw [IntKind.wrap_u8]
          omega
        have hor : bits .or .u8 (r : Int) 128 = (r : Int) + 128 := u8_or128_right _ (by omega) (by omega)
        have hdiv : (v : Int) / 128 = (q : Int) := by omega
        have hi9 : i < 9 := by
          by_cases h9 : i < 9
          · exact h9
          · have := HV.out.2
            rw [show i + 1 = 10 by omega, lim_ten] at this
            omega
        have HV2 : Hid (q < 18446744073709551616 ∧ q < lim (i + 1 + 1)) := Lib.hid (by
          have h1 := HV.out.1
          have h2 := HV.out.2
          rw [lim_step (by omega)] at h2
          omega)
        have HVb2 : Hid (vb u = (pre ++ [UInt8.ofNat (r + 128)]) ++ vbF (10 - (i + 1)) q) := Lib.hid (by
          rw [HVb.out, show 10 - i = (10 - (i + 1)) + 1 by omega, vbF_high hs, hr, hq, List.append_assoc]
          rfl)
        have hqv : q < v := by omega
        obtain ⟨x, hx⟩ : ∃ x, UInt8.ofNat (r + 128) = x := ⟨_, rfl⟩
        have HX : Hid (By.bv x = .int .u8 ((r : Int) + 128)) := Lib.hid (by unfold By.bv; rw [← hx, byte_nat (by omega)]; simp)
        rw [hx] at HVb2
        clear hx
        have a1 : (128 : Int) ≤ (v : Int) := by omega
        clear hr hq
        go_wp2_with (at_builtin; go_must (refine By.wpList_append _ rfl (.tmp 19) (.tmp 24) rfl w.heap.size sv (bs ++ pre) rfl (HOa.out _) (some ⟨wr.heap.size, 0, none⟩) 1 1 [x] rfl rfl (fun h => by cases h) (By.seg_one (heap_alloc_new wr _) HX.out) (by have := HLl.out; omega) (by simp; omega) ?_))
        intro v2 y2 o2 gr2 _
        have hbx := (Below.refl wr.heap.size wr).alloc (Nat.le_refl _) (.cells #[.int .u8 ((r : Int) + 128)] 5)
        have HB2 := Lib.hid ((bchain HB.out hbx).grown gr2 (bchain HB.out hbx).size (By.own_ge HO.out))
        have HO2 := Lib.hid o2
        clear o2 gr2 hbx
        go_wp2
        go_roundw
        case rel => exact ⟨i + 1, q, v2, pre ++ [x], rfl, rfl, by omega, HV2, Lib.hid (by rw [List.length_append, HPl.out]; rfl), HVb2, HO2, HB2⟩
        case measure => simp [intOf]; omega
  · have hz : (zz n : Int) = n * 2 := by
      unfold zz
      rw [if_neg hneg]
      omega
    have hfold := ref_fold_pos (n * 2) (by omega) (by omega)
    rw [← hz, hu] at hfold
    rw [hu] at hz ⊢
    have hm2 : n * 2 = (u : Int) := hz.symm
    have hsr : n / 9223372036854775808 = 0 := by omega
    clear hu hz
    go_enter Try.func39, Try.ntmps39
    go_wp2_with (at_builtin; go_must (refine By.wpList_append _ rfl (.tmp 7) (.tmp 8) rfl w.heap.size (.slice (some ⟨w.heap.size, 0, none⟩) 0 0) [] rfl (By.own_empty (Nat.le_refl _) (heap_alloc_new w _)) ao m cap bs rfl HLen.out HL.out.nil ((HL.out.below HBx.out).seg) (by simp only [List.length_nil]; omega) (by simp) ?_))
    intro v1 y1 o1 gr1 _
    have HO1 := Lib.hid o1
    have HB1 := Lib.hid (HBx.out.grown gr1 HBx.out.size (fun k hk => by cases hk; exact Nat.le_refl _))
    clear o1 gr1
    go_wp2
    clear hfold hneg
    go_loopw [5, 6] (fun ov x wr => ∃ (i v : Nat) (sv : Value) (pre : List UInt8), sv = ov ∧ x = .int .u64 (v : Int) ∧ i ≤ 9 ∧ Hid (v < 18446744073709551616 ∧ v < lim (i + 1)) ∧ Hid (pre.length = i) ∧ Hid (vb u = pre ++ vbF (10 - i) v) ∧ Hid (By.Own wr w.heap.size sv (bs ++ pre)) ∧ Hid (Below w.heap.size w wr)) (fun _ x _ => (intOf x).toNat)
    case atStart => exact ⟨0, u, v1, [], rfl, rfl, by omega, Lib.hid ⟨HUl.out, by rw [lim_one]; exact HUl.out⟩, Lib.hid rfl, Lib.hid rfl, Lib.hid (by simpa using HO1.out), HB1⟩
    case round =>
      obtain ⟨i, v, sv, pre, rfl, rfl, hi, HV, HPl, HVb, HO, HB⟩ := hrel
      have hsw := HB.out.size
      have HOa : Hid (∀ o, By.Own (wr.alloc o) w.heap.size sv (bs ++ pre)) := fun o => By.own_alloc HO.out o
      have HLl : Hid ((bs ++ pre).length ≤ 1000000000010) := Lib.hid (by rw [List.length_append, ← HLen.out, HPl.out]; omega)
      by_cases hs : v < 128
      · have hw8 : IntKind.u8.wrap (v : Int) = (v : Int) := by
          rw [IntKind.wrap_u8]
          omega
        have HE : Hid (vb u = pre ++ [UInt8.ofNat v]) := Lib.hid (by rw [HVb.out, show 10 - i = (9 - i) + 1 by omega, vbF_low hs])
        have a1 : ¬ (128 : Int) ≤ (v : Int) := by omega
        go_wp2_with (at_builtin; go_must (refine By.wpList_append _ rfl (.tmp 28) (.tmp 31) rfl w.heap.size sv (bs ++ pre) rfl (HOa.out _) (some ⟨wr.heap.size, 0, none⟩) 1 1 [UInt8.ofNat v] rfl rfl (fun h => by cases h) (By.seg_one (heap_alloc_new wr _) (by unfold By.bv; rw [byte_nat (by omega)])) (by have := HLl.out; omega) (by simp; omega) ?_))
        intro v2 y2 o2 gr2 _
        have hbx := (Below.refl wr.heap.size wr).alloc (Nat.le_refl _) (.cells #[.int .u8 (v : Int)] 5)
        have HB2 := Lib.hid ((bchain HB.out hbx).grown gr2 (bchain HB.out hbx).size (By.own_ge HO.out))
        have HO2 := Lib.hid o2
        clear o2 gr2 hbx
        go_wp2
        go_ret
        refine ⟨⟨v2, rfl, ?_⟩, HB2.out⟩
        rw [HE.out]
        exact HO2.out
      · obtain ⟨r, hr⟩ : ∃ r, v % 128 = r := ⟨_, rfl⟩
        obtain ⟨q, hq⟩ : ∃ q, v / 128 = q := ⟨_, rfl⟩
        have hr128 : r < 128 := by omega
        have hand := and127 v HV.out.1
        rw [hr] at hand
        have hw8 : IntKind.u8.wrap (r : Int) = (r : Int) := by
          rw [IntKind.wrap_u8]
          omega
        have hor : bits .or .u8 (r : Int) 128 = (r : Int) + 128 := u8_or128_right _ (by omega) (by omega)
        have hdiv : (v : Int) / 128 = (q : Int) := by omega
        have hi9 : i < 9 := by
          by_cases h9 : i < 9
          · exact h9
          · have := HV.out.2
            rw [show i + 1 = 10 by omega, lim_ten] at this
            omega
        have HV2 : Hid (q < 18446744073709551616 ∧ q < lim (i + 1 + 1)) := Lib.hid (by
          have h1 := HV.out.1
          have h2 := HV.out.2
          rw [lim_step (by omega)] at h2
          omega)
        have HVb2 : Hid (vb u = (pre ++ [UInt8.ofNat (r + 128)]) ++ vbF (10 - (i + 1)) q) := Lib.hid (by
          rw [HVb.out, show 10 - i = (10 - (i + 1)) + 1 by omega, vbF_high hs, hr, hq, List.append_assoc]
          rfl)
        have hqv : q < v := by omega
        obtain ⟨x, hx⟩ : ∃ x, UInt8.ofNat (r + 128) = x := ⟨_, rfl⟩
        have HX : Hid (By.bv x = .int .u8 ((r : Int) + 128)) := Lib.hid (by unfold By.bv; rw [← hx, byte_nat (by omega)]; simp)
        rw [hx] at HVb2
        clear hx
        have a1 : (128 : Int) ≤ (v : Int) := by omega
        clear hr hq
        go_wp2_with (at_builtin; go_must (refine By.wpList_append _ rfl (.tmp 19) (.tmp 24) rfl w.heap.size sv (bs ++ pre) rfl (HOa.out _) (some ⟨wr.heap.size, 0, none⟩) 1 1 [x] rfl rfl (fun h => by cases h) (By.seg_one (heap_alloc_new wr _) HX.out) (by have := HLl.out; omega) (by simp; omega) ?_))
        intro v2 y2 o2 gr2 _
        have hbx := (Below.refl wr.heap.size wr).alloc (Nat.le_refl _) (.cells #[.int .u8 ((r : Int) + 128)] 5)
        have HB2 := Lib.hid ((bchain HB.out hbx).grown gr2 (bchain HB.out hbx).size (By.own_ge HO.out))
        have HO2 := Lib.hid o2
        clear o2 gr2 hbx
        go_wp2
        go_roundw
        case rel => exact ⟨i + 1, q, v2, pre ++ [x], rfl, rfl, by omega, HV2, Lib.hid (by rw [List.length_append, HPl.out]; rfl), HVb2, HO2, HB2⟩
        case measure => simp [intOf]; omega
end Go.Proofs.Ytndfhnaafaijcaa

/- THE DOCUMENT's OWN ANSWER: impostref1's Reader: Num. (By genrefrd.py.) -/
namespace Go.Proofs.Ytndfhnaafaijcaa
open Go.RowKit
open Go.Sort (grow)
open Mem Pk

theorem i64_not_right (q : Nat) (h : q < 9223372036854775808) : bits .xor .i64 (q : Int) (-1) = -(q : Int) - 1 := by
  rw [← Lib.i64_not q h]
  show IntKind.i64.wrap ((BitVec.ofInt 64 (q : Int) ^^^ BitVec.ofInt 64 (-1)).toNat : Int) = IntKind.i64.wrap ((BitVec.ofInt 64 (-1) ^^^ BitVec.ofInt 64 (q : Int)).toNat : Int)
  rw [BitVec.xor_comm]
theorem i64_same (q : Nat) (h : q < 9223372036854775808) : bits .xor .i64 (q : Int) 0 = (q : Int) := by
  show IntKind.i64.wrap ((BitVec.ofInt 64 (q : Int) ^^^ BitVec.ofInt 64 0).toNat : Int) = _
  have h2 : (BitVec.ofInt 64 (q : Int)).toNat = q := by
    rw [BitVec.ofInt_natCast, BitVec.toNat_ofNat]
    exact Nat.mod_eq_of_lt (by omega)
  have h3 : (BitVec.ofInt 64 0).toNat = 0 := by decide
  rw [BitVec.toNat_xor, h2, h3, Nat.xor_zero, IntKind.wrap_i64]
  omega
/-- what a region that only reads leaves of a reader -/
theorem Rd.cells {w : World} {p : Nat} {ao : Option Addr} {n cap : Nat} {bs : List UInt8} {s : St} (h : Rd w p ao n cap bs s) : (∀ d os, (grow (redrawn w d) os).cell? ⟨p, 0, none⟩ = some (.slice ao n cap)) ∧ (∀ d os, (grow (redrawn w d) os).cell? ⟨p, 1, none⟩ = some (.int .i64 (s.at' : Int))) :=
  ⟨cell_regrown h.c0, cell_regrown h.c1⟩
set_option maxRecDepth 20000 in
set_option maxHeartbeats 8000000 in
theorem ref_rd_num (p : Nat) (ao : Option Addr) (n cap : Nat) (bs : List UInt8) (s : St) (w : World) (hR : Rd w p ao n cap bs s) :
    Calls Try.prog 44 #[.pointer (some ⟨p, 0, none⟩)] w fun e w' => e = .returned (.int .i64 (rNum bs s).1) ∧ Rd w' p ao n cap bs (rNum bs s).2 ∧ Upd w p w' := by
  have HR := Lib.hid hR
  obtain ⟨a, er⟩ := s
  have c2 := hR.c2
  have hpl := hR.place
  dsimp only at c2 hpl
  have hcap := hR.ls.reach
  have hfit := hR.ls.fits
  have HLen := Lib.hid hR.ls.len
  clear hR
  by_cases he : er = 0
  · subst he
    go_enter Try.func44, Try.ntmps44
    go_wp2
    clear c2
    go_loopw [3, 4, 5] (fun x i _ wr => ∃ (k u : Nat), x = .int .u64 (u : Int) ∧ i = .int .i64 (k : Int) ∧ k ≤ 9 ∧ a + k ≤ n ∧ Hid (u < pw k) ∧ Hid (rd k u (bs.drop (a + k)) = num (bs.drop a)) ∧ Hid (Below w.heap.size w wr)) (fun _ i _ _ => n - a - (intOf i).toNat)
    case atStart => exact ⟨0, 0, rfl, rfl, by omega, by omega, Lib.hid (by decide), Lib.hid rfl, Lib.hid (Below.refl _ _)⟩
    case round =>
      obtain ⟨k, u, rfl, rfl, hk9, hkn, HU, HN, HB⟩ := hrel
      obtain ⟨k0, k1⟩ := (HR.out.below HB.out).cells
      dsimp only at k1
      by_cases hlt : a + k < n
      · have hkl : a + k < bs.length := HLen.out ▸ hlt
        obtain ⟨b, off, rfl⟩ := HR.out.ls.at (by omega)
        have hc := (HR.out.below HB.out).ls.row (a + k) hkl
        obtain ⟨x, hx⟩ : ∃ x, bs[a + k] = x := ⟨_, rfl⟩
        have HDr : Hid (bs.drop (a + k) = x :: bs.drop (a + (k + 1))) := Lib.hid (by rw [List.drop_eq_getElem_cons hkl, hx]; rfl)
        rw [hx] at hc
        have hx256 : x.toNat ≤ 255 := by
          have := UInt8.toNat_lt x
          omega
        obtain ⟨c, hcx⟩ : ∃ c, x.toNat = c := ⟨_, rfl⟩
        unfold By.bv at hc
        rw [hcx] at hc hx256
        have HCx := Lib.hid hcx
        have hc' := cell_regrown hc
        have hand := u8_and127 (c : Int) (by omega) (by omega)
        obtain ⟨r, hr⟩ : ∃ r, c % 128 = r := ⟨_, rfl⟩
        have hr128 : r ≤ 127 := by omega
        rw [show (c : Int) % 128 = (r : Int) by omega] at hand
        have HRc := Lib.hid hr
        clear hx hkl hcx hr hc
        go_wp2
        refine wp_region_quiet_below (by kernel_rfl) (by kernel_rfl) ?_
        repeat (first | go_big_quiet_step (fail) | quiet_step (fail))
        refine wpQuiet_nil ?_
        intro _ hw'
        obtain ⟨⟨dq, osq⟩, hw''⟩ := hw'
        subst hw''
        have bq := below_regrown wr dq osq
        have HBq := Lib.hid (bchain HB.out bq)
        have hcq := hc' dq osq
        clear k0 k1 bq hc'
        generalize grow (redrawn wr dq) osq = y at *
        obtain ⟨k0, k1⟩ := (HR.out.below HBq.out).cells
        dsimp only at k1
        have hc' := cell_regrown hcq
        clear hcq
        go_wp2
        refine wp_region_quiet_below (by kernel_rfl) (by kernel_rfl) ?_
        repeat (first | go_big_quiet_step (fail) | quiet_step (fail))
        refine wpQuiet_nil ?_
        intro _ hw'
        obtain ⟨⟨dz, osz⟩, hw''⟩ := hw'
        subst hw''
        have bz := below_regrown y dz osz
        have HBz := Lib.hid (bchain HBq.out bz)
        clear k0 k1 bz hc'
        generalize grow (redrawn y dz) osz = z at *
        have HRz := Lib.hid (HR.out.below HBz.out)
        have HUz := Lib.hid (Upd.of p HBz.out)
        have d1 := HRz.out.c1
        have d2 := HRz.out.c2
        have df := HRz.out.fz
        dsimp only at d1 d2
        rcases (by omega : k = 0 ∨ k = 1 ∨ k = 2 ∨ k = 3 ∨ k = 4 ∨ k = 5 ∨ k = 6 ∨ k = 7 ∨ k = 8 ∨ k = 9) with rfl | rfl | rfl | rfl | rfl | rfl | rfl | rfl | rfl | rfl
        · have hub : u < 1 := HU.out
          obtain ⟨S, hS⟩ : ∃ S, u + r * 1 = S := ⟨_, rfl⟩
          have HSm := Lib.hid hS
          have HUb := Lib.hid hub
          have hSb : S < 128 := by omega
          have HSb := Lib.hid hSb
          have hor : bits .or .u64 (u : Int) ((r : Int)) = (S : Int) := by
            rw [u64_orv0 _ _ (by omega) (by omega) (by omega) (by omega) (by omega)]
            omega
          by_cases hm : 128 ≤ c
          · have HNx : Hid (rd 1 S (bs.drop (a + 1)) = num (bs.drop a)) := Lib.hid (by
              have h := HN.out
              rw [HDr.out, rd_more (by omega) (by rw [HCx.out]; exact hm), HCx.out, HRc.out] at h
              rw [← HSm.out]
              exact h)
            have HPw : Hid (S < pw 1) := Lib.hid (by
              rw [show pw 1 = 128 by decide]
              exact HSb.out)
            have a1 : ¬ (c : Int) < 128 := by omega
            clear hub hS hSb
            go_wp2
            go_roundw
            case rel => exact ⟨1, S, rfl, rfl, by omega, by omega, HPw, HNx, HBz⟩
            case measure => simp [intOf]; omega
          have hrc : r = c := by
            have := HRc.out
            omega
          have a2 : (c : Int) < 128 := by omega
          by_cases hc0 : c = 0
          · have q0 : ((c : Int) == 0) = true := beq_iff_eq.2 (by omega)
            have HE : Hid (num (bs.drop a) = .inr (S, 1)) := Lib.hid (by
              rw [← HN.out, HDr.out, rd_last (by rw [HCx.out]; omega) (by rw [HCx.out]; omega) (by rw [HCx.out]; omega), HCx.out, ← HSm.out, hrc])
            have hS64 : S < 18446744073709551616 := (Nat.lt_of_lt_of_le HSb.out (by omega))
            obtain ⟨h2, hh2⟩ : ∃ h2, S / 2 = h2 := ⟨_, rfl⟩
            have hdiv : (S : Int) / 2 = (h2 : Int) := by omega
            have hh2b : h2 ≤ 9223372036854775807 := by omega
            have hand1 := Lib.u64_and1 (S : Int) (by omega) (by omega)
            have HHf := Lib.hid hh2
            have e64 : (a : Int) + 0 + 1 = ((a + 1 : Nat) : Int) := by omega
            have HS64 := Lib.hid hS64
            clear hub hS hSb hrc hc0 hS64 hh2
            by_cases ho : S % 2 = 1
            · have HZ : Hid (uz S = -(h2 : Int) - 1) := Lib.hid (by unfold uz; rw [if_pos ho, HHf.out])
              rw [show (S : Int) % 2 = 1 by omega] at hand1
              have hx := i64_not_right h2 (by omega)
              clear ho
              go_wp2
              go_ret
              refine ⟨by rw [rNum_ok rfl HE.out, HZ.out]; rfl, ?_, HUz.out.trans (Upd.set _)⟩
              rw [rNum_ok rfl HE.out]
              have hat := HRz.out.at (a + 1) (by omega)
              rw [← e64] at hat
              exact hat
            · have HZ : Hid (uz S = (h2 : Int)) := Lib.hid (by unfold uz; rw [if_neg ho, HHf.out])
              rw [show (S : Int) % 2 = 0 by omega] at hand1
              have hx := i64_same h2 (by omega)
              clear ho
              go_wp2
              go_ret
              refine ⟨by rw [rNum_ok rfl HE.out, HZ.out]; rfl, ?_, HUz.out.trans (Upd.set _)⟩
              rw [rNum_ok rfl HE.out]
              have hat := HRz.out.at (a + 1) (by omega)
              rw [← e64] at hat
              exact hat
          have q0 : ((c : Int) == 0) = false := beq_eq_false_iff_ne.2 (by omega)
          have HE : Hid (num (bs.drop a) = .inr (S, 1)) := Lib.hid (by
            rw [← HN.out, HDr.out, rd_last (by rw [HCx.out]; omega) (by rw [HCx.out]; omega) (by rw [HCx.out]; omega), HCx.out, ← HSm.out, hrc])
          have hS64 : S < 18446744073709551616 := (Nat.lt_of_lt_of_le HSb.out (by omega))
          obtain ⟨h2, hh2⟩ : ∃ h2, S / 2 = h2 := ⟨_, rfl⟩
          have hdiv : (S : Int) / 2 = (h2 : Int) := by omega
          have hh2b : h2 ≤ 9223372036854775807 := by omega
          have hand1 := Lib.u64_and1 (S : Int) (by omega) (by omega)
          have HHf := Lib.hid hh2
          have e64 : (a : Int) + 0 + 1 = ((a + 1 : Nat) : Int) := by omega
          have HS64 := Lib.hid hS64
          clear hub hS hSb hrc hc0 hS64 hh2
          by_cases ho : S % 2 = 1
          · have HZ : Hid (uz S = -(h2 : Int) - 1) := Lib.hid (by unfold uz; rw [if_pos ho, HHf.out])
            rw [show (S : Int) % 2 = 1 by omega] at hand1
            have hx := i64_not_right h2 (by omega)
            clear ho
            go_wp2
            go_ret
            refine ⟨by rw [rNum_ok rfl HE.out, HZ.out]; rfl, ?_, HUz.out.trans (Upd.set _)⟩
            rw [rNum_ok rfl HE.out]
            have hat := HRz.out.at (a + 1) (by omega)
            rw [← e64] at hat
            exact hat
          · have HZ : Hid (uz S = (h2 : Int)) := Lib.hid (by unfold uz; rw [if_neg ho, HHf.out])
            rw [show (S : Int) % 2 = 0 by omega] at hand1
            have hx := i64_same h2 (by omega)
            clear ho
            go_wp2
            go_ret
            refine ⟨by rw [rNum_ok rfl HE.out, HZ.out]; rfl, ?_, HUz.out.trans (Upd.set _)⟩
            rw [rNum_ok rfl HE.out]
            have hat := HRz.out.at (a + 1) (by omega)
            rw [← e64] at hat
            exact hat
        · have hub : u < 128 := HU.out
          obtain ⟨S, hS⟩ : ∃ S, u + r * 128 = S := ⟨_, rfl⟩
          have HSm := Lib.hid hS
          have HUb := Lib.hid hub
          have hSb : S < 16384 := by omega
          have HSb := Lib.hid hSb
          have hor : bits .or .u64 (u : Int) ((r : Int) * 128) = (S : Int) := by
            rw [u64_orv7 _ _ (by omega) (by omega) (by omega) (by omega) (by omega)]
            omega
          by_cases hm : 128 ≤ c
          · have HNx : Hid (rd 2 S (bs.drop (a + 2)) = num (bs.drop a)) := Lib.hid (by
              have h := HN.out
              rw [HDr.out, rd_more (by omega) (by rw [HCx.out]; exact hm), HCx.out, HRc.out] at h
              rw [← HSm.out]
              exact h)
            have HPw : Hid (S < pw 2) := Lib.hid (by
              rw [show pw 2 = 16384 by decide]
              exact HSb.out)
            have a1 : ¬ (c : Int) < 128 := by omega
            clear hub hS hSb
            go_wp2
            go_roundw
            case rel => exact ⟨2, S, rfl, rfl, by omega, by omega, HPw, HNx, HBz⟩
            case measure => simp [intOf]; omega
          have hrc : r = c := by
            have := HRc.out
            omega
          have a2 : (c : Int) < 128 := by omega
          by_cases hc0 : c = 0
          · have HE : Hid (num (bs.drop a) = .inl 4) := Lib.hid (by
              rw [← HN.out, HDr.out, rd_zero (by rw [HCx.out]; exact hc0) (by omega)])
            have q0 : ((c : Int) == 0) = true := beq_iff_eq.2 (by omega)
            clear hc0 hrc hSb
            clear hub hS
            go_wp2
            go_ret
            refine ⟨by rw [rNum_bad rfl HE.out]; rfl, ?_, HUz.out.trans (Upd.set _)⟩
            rw [rNum_bad rfl HE.out]
            exact HRz.out.wrong 4
          have q0 : ((c : Int) == 0) = false := beq_eq_false_iff_ne.2 (by omega)
          have HE : Hid (num (bs.drop a) = .inr (S, 2)) := Lib.hid (by
            rw [← HN.out, HDr.out, rd_last (by rw [HCx.out]; omega) (by rw [HCx.out]; omega) (by rw [HCx.out]; omega), HCx.out, ← HSm.out, hrc])
          have hS64 : S < 18446744073709551616 := (Nat.lt_of_lt_of_le HSb.out (by omega))
          obtain ⟨h2, hh2⟩ : ∃ h2, S / 2 = h2 := ⟨_, rfl⟩
          have hdiv : (S : Int) / 2 = (h2 : Int) := by omega
          have hh2b : h2 ≤ 9223372036854775807 := by omega
          have hand1 := Lib.u64_and1 (S : Int) (by omega) (by omega)
          have HHf := Lib.hid hh2
          have e64 : (a : Int) + 1 + 1 = ((a + 2 : Nat) : Int) := by omega
          have HS64 := Lib.hid hS64
          clear hub hS hSb hrc hc0 hS64 hh2
          by_cases ho : S % 2 = 1
          · have HZ : Hid (uz S = -(h2 : Int) - 1) := Lib.hid (by unfold uz; rw [if_pos ho, HHf.out])
            rw [show (S : Int) % 2 = 1 by omega] at hand1
            have hx := i64_not_right h2 (by omega)
            clear ho
            go_wp2
            go_ret
            refine ⟨by rw [rNum_ok rfl HE.out, HZ.out]; rfl, ?_, HUz.out.trans (Upd.set _)⟩
            rw [rNum_ok rfl HE.out]
            have hat := HRz.out.at (a + 2) (by omega)
            rw [← e64] at hat
            exact hat
          · have HZ : Hid (uz S = (h2 : Int)) := Lib.hid (by unfold uz; rw [if_neg ho, HHf.out])
            rw [show (S : Int) % 2 = 0 by omega] at hand1
            have hx := i64_same h2 (by omega)
            clear ho
            go_wp2
            go_ret
            refine ⟨by rw [rNum_ok rfl HE.out, HZ.out]; rfl, ?_, HUz.out.trans (Upd.set _)⟩
            rw [rNum_ok rfl HE.out]
            have hat := HRz.out.at (a + 2) (by omega)
            rw [← e64] at hat
            exact hat
        · have hub : u < 16384 := HU.out
          obtain ⟨S, hS⟩ : ∃ S, u + r * 16384 = S := ⟨_, rfl⟩
          have HSm := Lib.hid hS
          have HUb := Lib.hid hub
          have hSb : S < 2097152 := by omega
          have HSb := Lib.hid hSb
          have hor : bits .or .u64 (u : Int) ((r : Int) * 16384) = (S : Int) := by
            rw [u64_orv14 _ _ (by omega) (by omega) (by omega) (by omega) (by omega)]
            omega
          by_cases hm : 128 ≤ c
          · have HNx : Hid (rd 3 S (bs.drop (a + 3)) = num (bs.drop a)) := Lib.hid (by
              have h := HN.out
              rw [HDr.out, rd_more (by omega) (by rw [HCx.out]; exact hm), HCx.out, HRc.out] at h
              rw [← HSm.out]
              exact h)
            have HPw : Hid (S < pw 3) := Lib.hid (by
              rw [show pw 3 = 2097152 by decide]
              exact HSb.out)
            have a1 : ¬ (c : Int) < 128 := by omega
            clear hub hS hSb
            go_wp2
            go_roundw
            case rel => exact ⟨3, S, rfl, rfl, by omega, by omega, HPw, HNx, HBz⟩
            case measure => simp [intOf]; omega
          have hrc : r = c := by
            have := HRc.out
            omega
          have a2 : (c : Int) < 128 := by omega
          by_cases hc0 : c = 0
          · have HE : Hid (num (bs.drop a) = .inl 4) := Lib.hid (by
              rw [← HN.out, HDr.out, rd_zero (by rw [HCx.out]; exact hc0) (by omega)])
            have q0 : ((c : Int) == 0) = true := beq_iff_eq.2 (by omega)
            clear hc0 hrc hSb
            clear hub hS
            go_wp2
            go_ret
            refine ⟨by rw [rNum_bad rfl HE.out]; rfl, ?_, HUz.out.trans (Upd.set _)⟩
            rw [rNum_bad rfl HE.out]
            exact HRz.out.wrong 4
          have q0 : ((c : Int) == 0) = false := beq_eq_false_iff_ne.2 (by omega)
          have HE : Hid (num (bs.drop a) = .inr (S, 3)) := Lib.hid (by
            rw [← HN.out, HDr.out, rd_last (by rw [HCx.out]; omega) (by rw [HCx.out]; omega) (by rw [HCx.out]; omega), HCx.out, ← HSm.out, hrc])
          have hS64 : S < 18446744073709551616 := (Nat.lt_of_lt_of_le HSb.out (by omega))
          obtain ⟨h2, hh2⟩ : ∃ h2, S / 2 = h2 := ⟨_, rfl⟩
          have hdiv : (S : Int) / 2 = (h2 : Int) := by omega
          have hh2b : h2 ≤ 9223372036854775807 := by omega
          have hand1 := Lib.u64_and1 (S : Int) (by omega) (by omega)
          have HHf := Lib.hid hh2
          have e64 : (a : Int) + 2 + 1 = ((a + 3 : Nat) : Int) := by omega
          have HS64 := Lib.hid hS64
          clear hub hS hSb hrc hc0 hS64 hh2
          by_cases ho : S % 2 = 1
          · have HZ : Hid (uz S = -(h2 : Int) - 1) := Lib.hid (by unfold uz; rw [if_pos ho, HHf.out])
            rw [show (S : Int) % 2 = 1 by omega] at hand1
            have hx := i64_not_right h2 (by omega)
            clear ho
            go_wp2
            go_ret
            refine ⟨by rw [rNum_ok rfl HE.out, HZ.out]; rfl, ?_, HUz.out.trans (Upd.set _)⟩
            rw [rNum_ok rfl HE.out]
            have hat := HRz.out.at (a + 3) (by omega)
            rw [← e64] at hat
            exact hat
          · have HZ : Hid (uz S = (h2 : Int)) := Lib.hid (by unfold uz; rw [if_neg ho, HHf.out])
            rw [show (S : Int) % 2 = 0 by omega] at hand1
            have hx := i64_same h2 (by omega)
            clear ho
            go_wp2
            go_ret
            refine ⟨by rw [rNum_ok rfl HE.out, HZ.out]; rfl, ?_, HUz.out.trans (Upd.set _)⟩
            rw [rNum_ok rfl HE.out]
            have hat := HRz.out.at (a + 3) (by omega)
            rw [← e64] at hat
            exact hat
        · have hub : u < 2097152 := HU.out
          obtain ⟨S, hS⟩ : ∃ S, u + r * 2097152 = S := ⟨_, rfl⟩
          have HSm := Lib.hid hS
          have HUb := Lib.hid hub
          have hSb : S < 268435456 := by omega
          have HSb := Lib.hid hSb
          have hor : bits .or .u64 (u : Int) ((r : Int) * 2097152) = (S : Int) := by
            rw [u64_orv21 _ _ (by omega) (by omega) (by omega) (by omega) (by omega)]
            omega
          by_cases hm : 128 ≤ c
          · have HNx : Hid (rd 4 S (bs.drop (a + 4)) = num (bs.drop a)) := Lib.hid (by
              have h := HN.out
              rw [HDr.out, rd_more (by omega) (by rw [HCx.out]; exact hm), HCx.out, HRc.out] at h
              rw [← HSm.out]
              exact h)
            have HPw : Hid (S < pw 4) := Lib.hid (by
              rw [show pw 4 = 268435456 by decide]
              exact HSb.out)
            have a1 : ¬ (c : Int) < 128 := by omega
            clear hub hS hSb
            go_wp2
            go_roundw
            case rel => exact ⟨4, S, rfl, rfl, by omega, by omega, HPw, HNx, HBz⟩
            case measure => simp [intOf]; omega
          have hrc : r = c := by
            have := HRc.out
            omega
          have a2 : (c : Int) < 128 := by omega
          by_cases hc0 : c = 0
          · have HE : Hid (num (bs.drop a) = .inl 4) := Lib.hid (by
              rw [← HN.out, HDr.out, rd_zero (by rw [HCx.out]; exact hc0) (by omega)])
            have q0 : ((c : Int) == 0) = true := beq_iff_eq.2 (by omega)
            clear hc0 hrc hSb
            clear hub hS
            go_wp2
            go_ret
            refine ⟨by rw [rNum_bad rfl HE.out]; rfl, ?_, HUz.out.trans (Upd.set _)⟩
            rw [rNum_bad rfl HE.out]
            exact HRz.out.wrong 4
          have q0 : ((c : Int) == 0) = false := beq_eq_false_iff_ne.2 (by omega)
          have HE : Hid (num (bs.drop a) = .inr (S, 4)) := Lib.hid (by
            rw [← HN.out, HDr.out, rd_last (by rw [HCx.out]; omega) (by rw [HCx.out]; omega) (by rw [HCx.out]; omega), HCx.out, ← HSm.out, hrc])
          have hS64 : S < 18446744073709551616 := (Nat.lt_of_lt_of_le HSb.out (by omega))
          obtain ⟨h2, hh2⟩ : ∃ h2, S / 2 = h2 := ⟨_, rfl⟩
          have hdiv : (S : Int) / 2 = (h2 : Int) := by omega
          have hh2b : h2 ≤ 9223372036854775807 := by omega
          have hand1 := Lib.u64_and1 (S : Int) (by omega) (by omega)
          have HHf := Lib.hid hh2
          have e64 : (a : Int) + 3 + 1 = ((a + 4 : Nat) : Int) := by omega
          have HS64 := Lib.hid hS64
          clear hub hS hSb hrc hc0 hS64 hh2
          by_cases ho : S % 2 = 1
          · have HZ : Hid (uz S = -(h2 : Int) - 1) := Lib.hid (by unfold uz; rw [if_pos ho, HHf.out])
            rw [show (S : Int) % 2 = 1 by omega] at hand1
            have hx := i64_not_right h2 (by omega)
            clear ho
            go_wp2
            go_ret
            refine ⟨by rw [rNum_ok rfl HE.out, HZ.out]; rfl, ?_, HUz.out.trans (Upd.set _)⟩
            rw [rNum_ok rfl HE.out]
            have hat := HRz.out.at (a + 4) (by omega)
            rw [← e64] at hat
            exact hat
          · have HZ : Hid (uz S = (h2 : Int)) := Lib.hid (by unfold uz; rw [if_neg ho, HHf.out])
            rw [show (S : Int) % 2 = 0 by omega] at hand1
            have hx := i64_same h2 (by omega)
            clear ho
            go_wp2
            go_ret
            refine ⟨by rw [rNum_ok rfl HE.out, HZ.out]; rfl, ?_, HUz.out.trans (Upd.set _)⟩
            rw [rNum_ok rfl HE.out]
            have hat := HRz.out.at (a + 4) (by omega)
            rw [← e64] at hat
            exact hat
        · have hub : u < 268435456 := HU.out
          obtain ⟨S, hS⟩ : ∃ S, u + r * 268435456 = S := ⟨_, rfl⟩
          have HSm := Lib.hid hS
          have HUb := Lib.hid hub
          have hSb : S < 34359738368 := by omega
          have HSb := Lib.hid hSb
          have hor : bits .or .u64 (u : Int) ((r : Int) * 268435456) = (S : Int) := by
            rw [u64_orv28 _ _ (by omega) (by omega) (by omega) (by omega) (by omega)]
            omega
          by_cases hm : 128 ≤ c
          · have HNx : Hid (rd 5 S (bs.drop (a + 5)) = num (bs.drop a)) := Lib.hid (by
              have h := HN.out
              rw [HDr.out, rd_more (by omega) (by rw [HCx.out]; exact hm), HCx.out, HRc.out] at h
              rw [← HSm.out]
              exact h)
            have HPw : Hid (S < pw 5) := Lib.hid (by
              rw [show pw 5 = 34359738368 by decide]
              exact HSb.out)
            have a1 : ¬ (c : Int) < 128 := by omega
            clear hub hS hSb
            go_wp2
            go_roundw
            case rel => exact ⟨5, S, rfl, rfl, by omega, by omega, HPw, HNx, HBz⟩
            case measure => simp [intOf]; omega
          have hrc : r = c := by
            have := HRc.out
            omega
          have a2 : (c : Int) < 128 := by omega
          by_cases hc0 : c = 0
          · have HE : Hid (num (bs.drop a) = .inl 4) := Lib.hid (by
              rw [← HN.out, HDr.out, rd_zero (by rw [HCx.out]; exact hc0) (by omega)])
            have q0 : ((c : Int) == 0) = true := beq_iff_eq.2 (by omega)
            clear hc0 hrc hSb
            clear hub hS
            go_wp2
            go_ret
            refine ⟨by rw [rNum_bad rfl HE.out]; rfl, ?_, HUz.out.trans (Upd.set _)⟩
            rw [rNum_bad rfl HE.out]
            exact HRz.out.wrong 4
          have q0 : ((c : Int) == 0) = false := beq_eq_false_iff_ne.2 (by omega)
          have HE : Hid (num (bs.drop a) = .inr (S, 5)) := Lib.hid (by
            rw [← HN.out, HDr.out, rd_last (by rw [HCx.out]; omega) (by rw [HCx.out]; omega) (by rw [HCx.out]; omega), HCx.out, ← HSm.out, hrc])
          have hS64 : S < 18446744073709551616 := (Nat.lt_of_lt_of_le HSb.out (by omega))
          obtain ⟨h2, hh2⟩ : ∃ h2, S / 2 = h2 := ⟨_, rfl⟩
          have hdiv : (S : Int) / 2 = (h2 : Int) := by omega
          have hh2b : h2 ≤ 9223372036854775807 := by omega
          have hand1 := Lib.u64_and1 (S : Int) (by omega) (by omega)
          have HHf := Lib.hid hh2
          have e64 : (a : Int) + 4 + 1 = ((a + 5 : Nat) : Int) := by omega
          have HS64 := Lib.hid hS64
          clear hub hS hSb hrc hc0 hS64 hh2
          by_cases ho : S % 2 = 1
          · have HZ : Hid (uz S = -(h2 : Int) - 1) := Lib.hid (by unfold uz; rw [if_pos ho, HHf.out])
            rw [show (S : Int) % 2 = 1 by omega] at hand1
            have hx := i64_not_right h2 (by omega)
            clear ho
            go_wp2
            go_ret
            refine ⟨by rw [rNum_ok rfl HE.out, HZ.out]; rfl, ?_, HUz.out.trans (Upd.set _)⟩
            rw [rNum_ok rfl HE.out]
            have hat := HRz.out.at (a + 5) (by omega)
            rw [← e64] at hat
            exact hat
          · have HZ : Hid (uz S = (h2 : Int)) := Lib.hid (by unfold uz; rw [if_neg ho, HHf.out])
            rw [show (S : Int) % 2 = 0 by omega] at hand1
            have hx := i64_same h2 (by omega)
            clear ho
            go_wp2
            go_ret
            refine ⟨by rw [rNum_ok rfl HE.out, HZ.out]; rfl, ?_, HUz.out.trans (Upd.set _)⟩
            rw [rNum_ok rfl HE.out]
            have hat := HRz.out.at (a + 5) (by omega)
            rw [← e64] at hat
            exact hat
        · have hub : u < 34359738368 := HU.out
          obtain ⟨S, hS⟩ : ∃ S, u + r * 34359738368 = S := ⟨_, rfl⟩
          have HSm := Lib.hid hS
          have HUb := Lib.hid hub
          have hSb : S < 4398046511104 := by omega
          have HSb := Lib.hid hSb
          have hor : bits .or .u64 (u : Int) ((r : Int) * 34359738368) = (S : Int) := by
            rw [u64_orv35 _ _ (by omega) (by omega) (by omega) (by omega) (by omega)]
            omega
          by_cases hm : 128 ≤ c
          · have HNx : Hid (rd 6 S (bs.drop (a + 6)) = num (bs.drop a)) := Lib.hid (by
              have h := HN.out
              rw [HDr.out, rd_more (by omega) (by rw [HCx.out]; exact hm), HCx.out, HRc.out] at h
              rw [← HSm.out]
              exact h)
            have HPw : Hid (S < pw 6) := Lib.hid (by
              rw [show pw 6 = 4398046511104 by decide]
              exact HSb.out)
            have a1 : ¬ (c : Int) < 128 := by omega
            clear hub hS hSb
            go_wp2
            go_roundw
            case rel => exact ⟨6, S, rfl, rfl, by omega, by omega, HPw, HNx, HBz⟩
            case measure => simp [intOf]; omega
          have hrc : r = c := by
            have := HRc.out
            omega
          have a2 : (c : Int) < 128 := by omega
          by_cases hc0 : c = 0
          · have HE : Hid (num (bs.drop a) = .inl 4) := Lib.hid (by
              rw [← HN.out, HDr.out, rd_zero (by rw [HCx.out]; exact hc0) (by omega)])
            have q0 : ((c : Int) == 0) = true := beq_iff_eq.2 (by omega)
            clear hc0 hrc hSb
            clear hub hS
            go_wp2
            go_ret
            refine ⟨by rw [rNum_bad rfl HE.out]; rfl, ?_, HUz.out.trans (Upd.set _)⟩
            rw [rNum_bad rfl HE.out]
            exact HRz.out.wrong 4
          have q0 : ((c : Int) == 0) = false := beq_eq_false_iff_ne.2 (by omega)
          have HE : Hid (num (bs.drop a) = .inr (S, 6)) := Lib.hid (by
            rw [← HN.out, HDr.out, rd_last (by rw [HCx.out]; omega) (by rw [HCx.out]; omega) (by rw [HCx.out]; omega), HCx.out, ← HSm.out, hrc])
          have hS64 : S < 18446744073709551616 := (Nat.lt_of_lt_of_le HSb.out (by omega))
          obtain ⟨h2, hh2⟩ : ∃ h2, S / 2 = h2 := ⟨_, rfl⟩
          have hdiv : (S : Int) / 2 = (h2 : Int) := by omega
          have hh2b : h2 ≤ 9223372036854775807 := by omega
          have hand1 := Lib.u64_and1 (S : Int) (by omega) (by omega)
          have HHf := Lib.hid hh2
          have e64 : (a : Int) + 5 + 1 = ((a + 6 : Nat) : Int) := by omega
          have HS64 := Lib.hid hS64
          clear hub hS hSb hrc hc0 hS64 hh2
          by_cases ho : S % 2 = 1
          · have HZ : Hid (uz S = -(h2 : Int) - 1) := Lib.hid (by unfold uz; rw [if_pos ho, HHf.out])
            rw [show (S : Int) % 2 = 1 by omega] at hand1
            have hx := i64_not_right h2 (by omega)
            clear ho
            go_wp2
            go_ret
            refine ⟨by rw [rNum_ok rfl HE.out, HZ.out]; rfl, ?_, HUz.out.trans (Upd.set _)⟩
            rw [rNum_ok rfl HE.out]
            have hat := HRz.out.at (a + 6) (by omega)
            rw [← e64] at hat
            exact hat
          · have HZ : Hid (uz S = (h2 : Int)) := Lib.hid (by unfold uz; rw [if_neg ho, HHf.out])
            rw [show (S : Int) % 2 = 0 by omega] at hand1
            have hx := i64_same h2 (by omega)
            clear ho
            go_wp2
            go_ret
            refine ⟨by rw [rNum_ok rfl HE.out, HZ.out]; rfl, ?_, HUz.out.trans (Upd.set _)⟩
            rw [rNum_ok rfl HE.out]
            have hat := HRz.out.at (a + 6) (by omega)
            rw [← e64] at hat
            exact hat
        · have hub : u < 4398046511104 := HU.out
          obtain ⟨S, hS⟩ : ∃ S, u + r * 4398046511104 = S := ⟨_, rfl⟩
          have HSm := Lib.hid hS
          have HUb := Lib.hid hub
          have hSb : S < 562949953421312 := by omega
          have HSb := Lib.hid hSb
          have hor : bits .or .u64 (u : Int) ((r : Int) * 4398046511104) = (S : Int) := by
            rw [u64_orv42 _ _ (by omega) (by omega) (by omega) (by omega) (by omega)]
            omega
          by_cases hm : 128 ≤ c
          · have HNx : Hid (rd 7 S (bs.drop (a + 7)) = num (bs.drop a)) := Lib.hid (by
              have h := HN.out
              rw [HDr.out, rd_more (by omega) (by rw [HCx.out]; exact hm), HCx.out, HRc.out] at h
              rw [← HSm.out]
              exact h)
            have HPw : Hid (S < pw 7) := Lib.hid (by
              rw [show pw 7 = 562949953421312 by decide]
              exact HSb.out)
            have a1 : ¬ (c : Int) < 128 := by omega
            clear hub hS hSb
            go_wp2
            go_roundw
            case rel => exact ⟨7, S, rfl, rfl, by omega, by omega, HPw, HNx, HBz⟩
            case measure => simp [intOf]; omega
          have hrc : r = c := by
            have := HRc.out
            omega
          have a2 : (c : Int) < 128 := by omega
          by_cases hc0 : c = 0
          · have HE : Hid (num (bs.drop a) = .inl 4) := Lib.hid (by
              rw [← HN.out, HDr.out, rd_zero (by rw [HCx.out]; exact hc0) (by omega)])
            have q0 : ((c : Int) == 0) = true := beq_iff_eq.2 (by omega)
            clear hc0 hrc hSb
            clear hub hS
            go_wp2
            go_ret
            refine ⟨by rw [rNum_bad rfl HE.out]; rfl, ?_, HUz.out.trans (Upd.set _)⟩
            rw [rNum_bad rfl HE.out]
            exact HRz.out.wrong 4
          have q0 : ((c : Int) == 0) = false := beq_eq_false_iff_ne.2 (by omega)
          have HE : Hid (num (bs.drop a) = .inr (S, 7)) := Lib.hid (by
            rw [← HN.out, HDr.out, rd_last (by rw [HCx.out]; omega) (by rw [HCx.out]; omega) (by rw [HCx.out]; omega), HCx.out, ← HSm.out, hrc])
          have hS64 : S < 18446744073709551616 := (Nat.lt_of_lt_of_le HSb.out (by omega))
          obtain ⟨h2, hh2⟩ : ∃ h2, S / 2 = h2 := ⟨_, rfl⟩
          have hdiv : (S : Int) / 2 = (h2 : Int) := by omega
          have hh2b : h2 ≤ 9223372036854775807 := by omega
          have hand1 := Lib.u64_and1 (S : Int) (by omega) (by omega)
          have HHf := Lib.hid hh2
          have e64 : (a : Int) + 6 + 1 = ((a + 7 : Nat) : Int) := by omega
          have HS64 := Lib.hid hS64
          clear hub hS hSb hrc hc0 hS64 hh2
          by_cases ho : S % 2 = 1
          · have HZ : Hid (uz S = -(h2 : Int) - 1) := Lib.hid (by unfold uz; rw [if_pos ho, HHf.out])
            rw [show (S : Int) % 2 = 1 by omega] at hand1
            have hx := i64_not_right h2 (by omega)
            clear ho
            go_wp2
            go_ret
            refine ⟨by rw [rNum_ok rfl HE.out, HZ.out]; rfl, ?_, HUz.out.trans (Upd.set _)⟩
            rw [rNum_ok rfl HE.out]
            have hat := HRz.out.at (a + 7) (by omega)
            rw [← e64] at hat
            exact hat
          · have HZ : Hid (uz S = (h2 : Int)) := Lib.hid (by unfold uz; rw [if_neg ho, HHf.out])
            rw [show (S : Int) % 2 = 0 by omega] at hand1
            have hx := i64_same h2 (by omega)
            clear ho
            go_wp2
            go_ret
            refine ⟨by rw [rNum_ok rfl HE.out, HZ.out]; rfl, ?_, HUz.out.trans (Upd.set _)⟩
            rw [rNum_ok rfl HE.out]
            have hat := HRz.out.at (a + 7) (by omega)
            rw [← e64] at hat
            exact hat
        · have hub : u < 562949953421312 := HU.out
          obtain ⟨S, hS⟩ : ∃ S, u + r * 562949953421312 = S := ⟨_, rfl⟩
          have HSm := Lib.hid hS
          have HUb := Lib.hid hub
          have hSb : S < 72057594037927936 := by omega
          have HSb := Lib.hid hSb
          have hor : bits .or .u64 (u : Int) ((r : Int) * 562949953421312) = (S : Int) := by
            rw [u64_orv49 _ _ (by omega) (by omega) (by omega) (by omega) (by omega)]
            omega
          by_cases hm : 128 ≤ c
          · have HNx : Hid (rd 8 S (bs.drop (a + 8)) = num (bs.drop a)) := Lib.hid (by
              have h := HN.out
              rw [HDr.out, rd_more (by omega) (by rw [HCx.out]; exact hm), HCx.out, HRc.out] at h
              rw [← HSm.out]
              exact h)
            have HPw : Hid (S < pw 8) := Lib.hid (by
              rw [show pw 8 = 72057594037927936 by decide]
              exact HSb.out)
            have a1 : ¬ (c : Int) < 128 := by omega
            clear hub hS hSb
            go_wp2
            go_roundw
            case rel => exact ⟨8, S, rfl, rfl, by omega, by omega, HPw, HNx, HBz⟩
            case measure => simp [intOf]; omega
          have hrc : r = c := by
            have := HRc.out
            omega
          have a2 : (c : Int) < 128 := by omega
          by_cases hc0 : c = 0
          · have HE : Hid (num (bs.drop a) = .inl 4) := Lib.hid (by
              rw [← HN.out, HDr.out, rd_zero (by rw [HCx.out]; exact hc0) (by omega)])
            have q0 : ((c : Int) == 0) = true := beq_iff_eq.2 (by omega)
            clear hc0 hrc hSb
            clear hub hS
            go_wp2
            go_ret
            refine ⟨by rw [rNum_bad rfl HE.out]; rfl, ?_, HUz.out.trans (Upd.set _)⟩
            rw [rNum_bad rfl HE.out]
            exact HRz.out.wrong 4
          have q0 : ((c : Int) == 0) = false := beq_eq_false_iff_ne.2 (by omega)
          have HE : Hid (num (bs.drop a) = .inr (S, 8)) := Lib.hid (by
            rw [← HN.out, HDr.out, rd_last (by rw [HCx.out]; omega) (by rw [HCx.out]; omega) (by rw [HCx.out]; omega), HCx.out, ← HSm.out, hrc])
          have hS64 : S < 18446744073709551616 := (Nat.lt_of_lt_of_le HSb.out (by omega))
          obtain ⟨h2, hh2⟩ : ∃ h2, S / 2 = h2 := ⟨_, rfl⟩
          have hdiv : (S : Int) / 2 = (h2 : Int) := by omega
          have hh2b : h2 ≤ 9223372036854775807 := by omega
          have hand1 := Lib.u64_and1 (S : Int) (by omega) (by omega)
          have HHf := Lib.hid hh2
          have e64 : (a : Int) + 7 + 1 = ((a + 8 : Nat) : Int) := by omega
          have HS64 := Lib.hid hS64
          clear hub hS hSb hrc hc0 hS64 hh2
          by_cases ho : S % 2 = 1
          · have HZ : Hid (uz S = -(h2 : Int) - 1) := Lib.hid (by unfold uz; rw [if_pos ho, HHf.out])
            rw [show (S : Int) % 2 = 1 by omega] at hand1
            have hx := i64_not_right h2 (by omega)
            clear ho
            go_wp2
            go_ret
            refine ⟨by rw [rNum_ok rfl HE.out, HZ.out]; rfl, ?_, HUz.out.trans (Upd.set _)⟩
            rw [rNum_ok rfl HE.out]
            have hat := HRz.out.at (a + 8) (by omega)
            rw [← e64] at hat
            exact hat
          · have HZ : Hid (uz S = (h2 : Int)) := Lib.hid (by unfold uz; rw [if_neg ho, HHf.out])
            rw [show (S : Int) % 2 = 0 by omega] at hand1
            have hx := i64_same h2 (by omega)
            clear ho
            go_wp2
            go_ret
            refine ⟨by rw [rNum_ok rfl HE.out, HZ.out]; rfl, ?_, HUz.out.trans (Upd.set _)⟩
            rw [rNum_ok rfl HE.out]
            have hat := HRz.out.at (a + 8) (by omega)
            rw [← e64] at hat
            exact hat
        · have hub : u < 72057594037927936 := HU.out
          obtain ⟨S, hS⟩ : ∃ S, u + r * 72057594037927936 = S := ⟨_, rfl⟩
          have HSm := Lib.hid hS
          have HUb := Lib.hid hub
          have hSb : S < 9223372036854775808 := by omega
          have HSb := Lib.hid hSb
          have hor : bits .or .u64 (u : Int) ((r : Int) * 72057594037927936) = (S : Int) := by
            rw [u64_orv56 _ _ (by omega) (by omega) (by omega) (by omega) (by omega)]
            omega
          by_cases hm : 128 ≤ c
          · have HNx : Hid (rd 9 S (bs.drop (a + 9)) = num (bs.drop a)) := Lib.hid (by
              have h := HN.out
              rw [HDr.out, rd_more (by omega) (by rw [HCx.out]; exact hm), HCx.out, HRc.out] at h
              rw [← HSm.out]
              exact h)
            have HPw : Hid (S < pw 9) := Lib.hid (by
              rw [show pw 9 = 9223372036854775808 by decide]
              exact HSb.out)
            have a1 : ¬ (c : Int) < 128 := by omega
            clear hub hS hSb
            go_wp2
            go_roundw
            case rel => exact ⟨9, S, rfl, rfl, by omega, by omega, HPw, HNx, HBz⟩
            case measure => simp [intOf]; omega
          have hrc : r = c := by
            have := HRc.out
            omega
          have a2 : (c : Int) < 128 := by omega
          by_cases hc0 : c = 0
          · have HE : Hid (num (bs.drop a) = .inl 4) := Lib.hid (by
              rw [← HN.out, HDr.out, rd_zero (by rw [HCx.out]; exact hc0) (by omega)])
            have q0 : ((c : Int) == 0) = true := beq_iff_eq.2 (by omega)
            clear hc0 hrc hSb
            clear hub hS
            go_wp2
            go_ret
            refine ⟨by rw [rNum_bad rfl HE.out]; rfl, ?_, HUz.out.trans (Upd.set _)⟩
            rw [rNum_bad rfl HE.out]
            exact HRz.out.wrong 4
          have q0 : ((c : Int) == 0) = false := beq_eq_false_iff_ne.2 (by omega)
          have HE : Hid (num (bs.drop a) = .inr (S, 9)) := Lib.hid (by
            rw [← HN.out, HDr.out, rd_last (by rw [HCx.out]; omega) (by rw [HCx.out]; omega) (by rw [HCx.out]; omega), HCx.out, ← HSm.out, hrc])
          have hS64 : S < 18446744073709551616 := (Nat.lt_of_lt_of_le HSb.out (by omega))
          obtain ⟨h2, hh2⟩ : ∃ h2, S / 2 = h2 := ⟨_, rfl⟩
          have hdiv : (S : Int) / 2 = (h2 : Int) := by omega
          have hh2b : h2 ≤ 9223372036854775807 := by omega
          have hand1 := Lib.u64_and1 (S : Int) (by omega) (by omega)
          have HHf := Lib.hid hh2
          have e64 : (a : Int) + 8 + 1 = ((a + 9 : Nat) : Int) := by omega
          have HS64 := Lib.hid hS64
          clear hub hS hSb hrc hc0 hS64 hh2
          by_cases ho : S % 2 = 1
          · have HZ : Hid (uz S = -(h2 : Int) - 1) := Lib.hid (by unfold uz; rw [if_pos ho, HHf.out])
            rw [show (S : Int) % 2 = 1 by omega] at hand1
            have hx := i64_not_right h2 (by omega)
            clear ho
            go_wp2
            go_ret
            refine ⟨by rw [rNum_ok rfl HE.out, HZ.out]; rfl, ?_, HUz.out.trans (Upd.set _)⟩
            rw [rNum_ok rfl HE.out]
            have hat := HRz.out.at (a + 9) (by omega)
            rw [← e64] at hat
            exact hat
          · have HZ : Hid (uz S = (h2 : Int)) := Lib.hid (by unfold uz; rw [if_neg ho, HHf.out])
            rw [show (S : Int) % 2 = 0 by omega] at hand1
            have hx := i64_same h2 (by omega)
            clear ho
            go_wp2
            go_ret
            refine ⟨by rw [rNum_ok rfl HE.out, HZ.out]; rfl, ?_, HUz.out.trans (Upd.set _)⟩
            rw [rNum_ok rfl HE.out]
            have hat := HRz.out.at (a + 9) (by omega)
            rw [← e64] at hat
            exact hat
        · have hub : u < 9223372036854775808 := HU.out
          obtain ⟨S, hS⟩ : ∃ S, u + r * 9223372036854775808 = S := ⟨_, rfl⟩
          have HSm := Lib.hid hS
          have HUb := Lib.hid hub
          by_cases ht : 1 < c
          · have HE : Hid (num (bs.drop a) = .inl 4) := Lib.hid (by
              rw [← HN.out, HDr.out, rd_ten rfl (by rw [HCx.out]; exact ht)])
            have a1 : (1 : Int) < (c : Int) := by omega
            clear hub hS
            go_wp2
            go_ret
            refine ⟨by rw [rNum_bad rfl HE.out]; rfl, ?_, HUz.out.trans (Upd.set _)⟩
            rw [rNum_bad rfl HE.out]
            exact HRz.out.wrong 4
          have hrc : r = c := by
            have := HRc.out
            omega
          have hSb : S < 18446744073709551616 := by omega
          have hor : bits .or .u64 (u : Int) ((r : Int) * 9223372036854775808) = (S : Int) := by
            rw [u64_orv63 _ _ (by omega) (by omega) (by omega) (by omega) (by omega)]
            omega
          have HSb := Lib.hid hSb
          have hr1 : r ≤ 1 := by omega
          have a0 : ¬ (1 : Int) < (c : Int) := by omega
          have a2 : (c : Int) < 128 := by omega
          by_cases hc0 : c = 0
          · have HE : Hid (num (bs.drop a) = .inl 4) := Lib.hid (by
              rw [← HN.out, HDr.out, rd_zero (by rw [HCx.out]; exact hc0) (by omega)])
            have q0 : ((c : Int) == 0) = true := beq_iff_eq.2 (by omega)
            clear hc0 hrc hSb
            clear hub hS
            go_wp2
            go_ret
            refine ⟨by rw [rNum_bad rfl HE.out]; rfl, ?_, HUz.out.trans (Upd.set _)⟩
            rw [rNum_bad rfl HE.out]
            exact HRz.out.wrong 4
          have q0 : ((c : Int) == 0) = false := beq_eq_false_iff_ne.2 (by omega)
          have HE : Hid (num (bs.drop a) = .inr (S, 10)) := Lib.hid (by
            rw [← HN.out, HDr.out, rd_last (by rw [HCx.out]; omega) (by rw [HCx.out]; omega) (by rw [HCx.out]; omega), HCx.out, ← HSm.out, hrc])
          have hS64 : S < 18446744073709551616 := HSb.out
          obtain ⟨h2, hh2⟩ : ∃ h2, S / 2 = h2 := ⟨_, rfl⟩
          have hdiv : (S : Int) / 2 = (h2 : Int) := by omega
          have hh2b : h2 ≤ 9223372036854775807 := by omega
          have hand1 := Lib.u64_and1 (S : Int) (by omega) (by omega)
          have HHf := Lib.hid hh2
          have e64 : (a : Int) + 9 + 1 = ((a + 10 : Nat) : Int) := by omega
          have HS64 := Lib.hid hS64
          clear hub hS hSb hrc hc0 hS64 hh2
          by_cases ho : S % 2 = 1
          · have HZ : Hid (uz S = -(h2 : Int) - 1) := Lib.hid (by unfold uz; rw [if_pos ho, HHf.out])
            rw [show (S : Int) % 2 = 1 by omega] at hand1
            have hx := i64_not_right h2 (by omega)
            clear ho
            go_wp2
            go_ret
            refine ⟨by rw [rNum_ok rfl HE.out, HZ.out]; rfl, ?_, HUz.out.trans (Upd.set _)⟩
            rw [rNum_ok rfl HE.out]
            have hat := HRz.out.at (a + 10) (by omega)
            rw [← e64] at hat
            exact hat
          · have HZ : Hid (uz S = (h2 : Int)) := Lib.hid (by unfold uz; rw [if_neg ho, HHf.out])
            rw [show (S : Int) % 2 = 0 by omega] at hand1
            have hx := i64_same h2 (by omega)
            clear ho
            go_wp2
            go_ret
            refine ⟨by rw [rNum_ok rfl HE.out, HZ.out]; rfl, ?_, HUz.out.trans (Upd.set _)⟩
            rw [rNum_ok rfl HE.out]
            have hat := HRz.out.at (a + 10) (by omega)
            rw [← e64] at hat
            exact hat
      · have HE : Hid (num (bs.drop a) = .inl 3) := Lib.hid (by
          rw [← HN.out, List.drop_eq_nil_of_le (by rw [← HLen.out]; omega), rd_nil])
        go_wp2
        refine wp_region_quiet_below (by kernel_rfl) (by kernel_rfl) ?_
        repeat (first | go_big_quiet_step (fail) | quiet_step (fail))
        refine wpQuiet_nil ?_
        intro _ hw'
        obtain ⟨⟨dq, osq⟩, hw''⟩ := hw'
        subst hw''
        have HBz := Lib.hid (bchain HB.out (below_regrown wr dq osq))
        clear k0 k1
        generalize grow (redrawn wr dq) osq = z at *
        have HRz := Lib.hid (HR.out.below HBz.out)
        have HUz := Lib.hid (Upd.of p HBz.out)
        have d2 := HRz.out.c2
        have df := HRz.out.fz
        dsimp only at d2
        go_wp2
        go_ret
        refine ⟨by rw [rNum_bad rfl HE.out]; rfl, ?_, HUz.out.trans (Upd.set _)⟩
        rw [rNum_bad rfl HE.out]
        exact HRz.out.wrong 3
  · have HN := Lib.hid (rNum_wrong (bs := bs) (s := ⟨a, er⟩) he)
    have hne : (er != 0) = true := bne_iff_ne.2 he
    go_enter Try.func44, Try.ntmps44
    go_wp2
    go_ret
    exact ⟨by rw [HN.out]; rfl, by rw [HN.out]; exact HR.out, Upd.refl _ _⟩
end Go.Proofs.Ytndfhnaafaijcaa

/- THE DOCUMENT's OWN ANSWER: impostref1's Reader: Within, Count, Text, End, Read. (By genrefrw.py.) -/
namespace Go.Proofs.Ytndfhnaafaijcaa
open Go.RowKit
open Go.Sort (grow)
open Mem Pk

theorem rNum_zero {bs : List UInt8} {s : St} (h : (rNum bs s).2.err ≠ 0) : (rNum bs s).1 = 0 := by
  unfold rNum at h ⊢
  split
  · rfl
  · rename_i h0
    rw [if_neg h0] at h
    cases hn : num (bs.drop s.at') with
    | inl e => rfl
    | inr q =>
      rw [hn] at h
      exact absurd rfl h
theorem rWithin_zero {bs : List UInt8} {lo hi : Int} {s : St} (h : (rWithin bs lo hi s).2.err ≠ 0) : (rWithin bs lo hi s).1 = 0 := by
  unfold rWithin at h ⊢
  split
  · rfl
  · rename_i h0
    rw [if_neg h0] at h
    split
    · rfl
    · rename_i h1
      rw [if_neg h1] at h
      exact absurd h h0
set_option maxHeartbeats 2000000 in
theorem ref_rd_within (p : Nat) (ao : Option Addr) (n cap : Nat) (bs : List UInt8) (lo hi : Int) (s : St) (w : World) (hR : Rd w p ao n cap bs s) :
    Calls Try.prog 57 #[.pointer (some ⟨p, 0, none⟩), .int .i64 lo, .int .i64 hi] w fun e w' => e = .returned (.int .i64 (rWithin bs lo hi s).1) ∧ Rd w' p ao n cap bs (rWithin bs lo hi s).2 ∧ Upd w p w' := by
  have HR := Lib.hid hR
  have hpl := hR.place
  have c1 := hR.c1
  clear hR
  go_enter Try.func57, Try.ntmps57
  go_wp2_with fail
  refine (ref_rd_num p ao n cap bs s w HR.out).mono ?_
  rintro e w1 ⟨rfl, hR1, hU1⟩
  have HR1 := Lib.hid hR1
  have HU1 := Lib.hid hU1
  have d2 := hR1.c2
  have d1 := hR1.c1
  have df := hR1.fz
  have HZ0 := Lib.hid (rNum_zero (bs := bs) (s := s))
  clear hR1 hU1 c1
  obtain ⟨v, s1, hv⟩ : ∃ v s1, rNum bs s = (v, s1) := ⟨_, _, rfl⟩
  have HV := Lib.hid hv
  rw [hv] at HR1 d2 d1 HZ0
  rw [hv]
  dsimp only at d2 d1 HR1 HZ0 ⊢
  clear hv
  by_cases he : s1.err = 0
  · rw [he] at d2
    by_cases hb : v < lo ∨ hi < v
    · have HN : Hid (rWithin bs lo hi s = (0, ⟨s.at', 2⟩)) := Lib.hid (rWithin_long (by rw [HV.out]; exact he) (by rw [HV.out]; exact hb))
      by_cases hlo : v < lo
      · clear hb
        go_wp2
        go_ret
        exact ⟨by rw [HN.out]; rfl, by rw [HN.out]; exact (HR1.out.wrong 2).at s.at' hpl, (HU1.out.trans (Upd.set _)).trans (Upd.set _)⟩
      · have hhi : hi < v := hb.resolve_left hlo
        clear hb
        go_wp2
        go_ret
        exact ⟨by rw [HN.out]; rfl, by rw [HN.out]; exact (HR1.out.wrong 2).at s.at' hpl, (HU1.out.trans (Upd.set _)).trans (Upd.set _)⟩
    · have HN : Hid (rWithin bs lo hi s = (v, s1)) := Lib.hid (by rw [rWithin_ok (by rw [HV.out]; exact he) (by rw [HV.out]; exact hb), HV.out])
      have hb1 : ¬ v < lo := fun h => hb (.inl h)
      have hb2 : ¬ hi < v := fun h => hb (.inr h)
      clear hb
      go_wp2
      go_ret
      exact ⟨by rw [HN.out]; rfl, by rw [HN.out]; exact HR1.out, HU1.out⟩
  · have HN : Hid (rWithin bs lo hi s = (0, s1)) := Lib.hid (by rw [rWithin_wrong (by rw [HV.out]; exact he), HV.out])
    have hne : (s1.err == 0) = false := beq_eq_false_iff_ne.2 he
    have hv0 : v = 0 := HZ0.out he
    subst hv0
    go_wp2
    go_ret
    exact ⟨by rw [HN.out]; rfl, by rw [HN.out]; exact HR1.out, HU1.out⟩

set_option maxHeartbeats 2000000 in
theorem ref_rd_count (p : Nat) (ao : Option Addr) (n cap : Nat) (bs : List UInt8) (most : Int) (s : St) (w : World) (hR : Rd w p ao n cap bs s) :
    Calls Try.prog 47 #[.pointer (some ⟨p, 0, none⟩), .int .i64 most] w fun e w' => e = .returned (.int .i64 (rCount bs most s).1) ∧ Rd w' p ao n cap bs (rCount bs most s).2 ∧ Upd w p w' := by
  have HR := Lib.hid hR
  have hpl := hR.place
  have c1 := hR.c1
  have hcap := hR.ls.reach
  have hfit := hR.ls.fits
  have HLen := Lib.hid hR.ls.len
  clear hR
  go_enter Try.func47, Try.ntmps47
  go_wp2_with fail
  refine (ref_rd_within p ao n cap bs 0 most s w HR.out).mono ?_
  rintro e w1 ⟨rfl, hR1, hU1⟩
  have hvf := rWithin_fit bs 0 most s
  have hpos := rWithin_pos bs most s
  have HZ0 := Lib.hid (rWithin_zero (bs := bs) (lo := 0) (hi := most) (s := s))
  obtain ⟨v, s1, hv⟩ : ∃ v s1, rWithin bs 0 most s = (v, s1) := ⟨_, _, rfl⟩
  have HV := Lib.hid hv
  rw [hv] at hR1 hvf hpos HZ0
  rw [hv]
  dsimp only at hvf hR1 hpos HZ0 ⊢
  unfold Fit at hvf
  have hpl1 := hR1.place
  have k0 := cell_regrown hR1.c0
  have k1 := cell_regrown hR1.c1
  have k2 := cell_regrown hR1.c2
  have HR1 := Lib.hid hR1
  have HU1 := Lib.hid hU1
  clear hR1 hU1 c1 hv
  obtain ⟨a1, e1⟩ := s1
  dsimp only at k1 k2 hpl1 HZ0
  by_cases he : e1 = 0
  · subst he
    by_cases hb : (n : Int) - (a1 : Int) < v
    · have HN : Hid (rCount bs most s = (0, ⟨s.at', 3⟩)) := Lib.hid (rCount_short (by rw [HV.out, ← HLen.out]; exact hb))
      go_wp2
      refine wp_region_quiet_below (by kernel_rfl) (by kernel_rfl) ?_
      repeat (first | go_big_quiet_step (fail) | quiet_step (fail))
      refine wpQuiet_nil ?_
      intro _ hw'
      obtain ⟨⟨dq, osq⟩, hw''⟩ := hw'
      subst hw''
      have bq := below_regrown w1 dq osq
      have HRq := Lib.hid (HR1.out.below bq)
      have HUq := Lib.hid (HU1.out.trans (Upd.of p bq))
      clear k0 k1 k2 bq
      generalize grow (redrawn w1 dq) osq = x at *
      have d0 := HRq.out.c0
      have d1 := HRq.out.c1
      have d2 := HRq.out.c2
      have df := HRq.out.fz
      dsimp only at d1 d2
      go_wp2
      go_ret
      exact ⟨by rw [HN.out]; rfl, by rw [HN.out]; exact (HRq.out.wrong 3).at s.at' hpl, (HUq.out.trans (Upd.set _)).trans (Upd.set _)⟩
    · have HN : Hid (rCount bs most s = (v, ⟨a1, 0⟩)) := Lib.hid (by rw [rCount_ok (by rw [HV.out, ← HLen.out]; exact hb), HV.out])
      go_wp2
      refine wp_region_quiet_below (by kernel_rfl) (by kernel_rfl) ?_
      repeat (first | go_big_quiet_step (fail) | quiet_step (fail))
      refine wpQuiet_nil ?_
      intro _ hw'
      obtain ⟨⟨dq, osq⟩, hw''⟩ := hw'
      subst hw''
      have bq := below_regrown w1 dq osq
      have HRq := Lib.hid (HR1.out.below bq)
      have HUq := Lib.hid (HU1.out.trans (Upd.of p bq))
      clear k0 k1 k2 bq
      generalize grow (redrawn w1 dq) osq = x at *
      have d0 := HRq.out.c0
      have d1 := HRq.out.c1
      have d2 := HRq.out.c2
      have df := HRq.out.fz
      dsimp only at d1 d2
      go_wp2
      go_ret
      exact ⟨by rw [HN.out]; rfl, by rw [HN.out]; exact HRq.out, HUq.out⟩
  · have hv0 : v = 0 := HZ0.out he
    subst hv0
    have HN : Hid (rCount bs most s = (0, ⟨a1, e1⟩)) := Lib.hid (by rw [rCount_ok (by rw [HV.out, ← HLen.out]; dsimp only; omega), HV.out])
    have hne : (e1 == 0) = false := beq_eq_false_iff_ne.2 he
    go_wp2
    refine wp_region_quiet_below (by kernel_rfl) (by kernel_rfl) ?_
    repeat (first | go_big_quiet_step (fail) | quiet_step (fail))
    refine wpQuiet_nil ?_
    intro _ hw'
    obtain ⟨⟨dq, osq⟩, hw''⟩ := hw'
    subst hw''
    have bq := below_regrown w1 dq osq
    have HRq := Lib.hid (HR1.out.below bq)
    have HUq := Lib.hid (HU1.out.trans (Upd.of p bq))
    clear k0 k1 k2 bq
    generalize grow (redrawn w1 dq) osq = x at *
    have d0 := HRq.out.c0
    have d1 := HRq.out.c1
    have d2 := HRq.out.c2
    have df := HRq.out.fz
    dsimp only at d1 d2
    go_wp2
    go_ret
    exact ⟨by rw [HN.out]; rfl, by rw [HN.out]; exact HRq.out, HUq.out⟩
set_option maxHeartbeats 2000000 in
theorem ref_rd_end (p : Nat) (ao : Option Addr) (n cap : Nat) (bs : List UInt8) (s : St) (w : World) (hR : Rd w p ao n cap bs s) :
    Calls Try.prog 48 #[.pointer (some ⟨p, 0, none⟩)] w fun e w' => e = .returned (.int .i64 (rEnd bs s).1) ∧ Rd w' p ao n cap bs (rEnd bs s).2 ∧ Upd w p w' := by
  have HR := Lib.hid hR
  have hcap := hR.ls.reach
  have hfit := hR.ls.fits
  have HLen := Lib.hid hR.ls.len
  have hpl := hR.place
  have k0 := cell_regrown hR.c0
  have k1 := cell_regrown hR.c1
  have k2 := cell_regrown hR.c2
  obtain ⟨a, er⟩ := s
  dsimp only at k1 k2 hpl
  clear hR
  by_cases he : er = 0
  · subst he
    by_cases hlt : a < n
    · have HN : Hid (rEnd bs ⟨a, 0⟩ = (5, ⟨a, 5⟩)) := Lib.hid (rEnd_tail ⟨rfl, by rw [← HLen.out]; exact hlt⟩)
      go_enter Try.func48, Try.ntmps48
      go_wp2
      refine wp_region_quiet_below (by kernel_rfl) (by kernel_rfl) ?_
      repeat (first | go_big_quiet_step (fail) | quiet_step (fail))
      refine wpQuiet_nil ?_
      intro _ hw'
      obtain ⟨⟨dq, osq⟩, hw''⟩ := hw'
      subst hw''
      have bq := below_regrown w dq osq
      have HRq := Lib.hid (HR.out.below bq)
      have HUq := Lib.hid (Upd.of p bq)
      clear k0 k1 k2 bq
      generalize grow (redrawn w dq) osq = x at *
      have d2 := HRq.out.c2
      have df := HRq.out.fz
      dsimp only at d2
      go_wp2
      go_ret
      refine ⟨by rw [HN.out]; rfl, ?_, HUq.out.trans (Upd.set _)⟩
      rw [HN.out]
      exact HRq.out.wrong 5
    · have HN : Hid (rEnd bs ⟨a, 0⟩ = (0, ⟨a, 0⟩)) := Lib.hid (rEnd_else (fun h => hlt (by rw [HLen.out]; exact h.2)))
      go_enter Try.func48, Try.ntmps48
      go_wp2
      refine wp_region_quiet_below (by kernel_rfl) (by kernel_rfl) ?_
      repeat (first | go_big_quiet_step (fail) | quiet_step (fail))
      refine wpQuiet_nil ?_
      intro _ hw'
      obtain ⟨⟨dq, osq⟩, hw''⟩ := hw'
      subst hw''
      have bq := below_regrown w dq osq
      have HRq := Lib.hid (HR.out.below bq)
      have HUq := Lib.hid (Upd.of p bq)
      clear k0 k1 k2 bq
      generalize grow (redrawn w dq) osq = x at *
      have d2 := HRq.out.c2
      dsimp only at d2
      go_wp2
      go_ret
      exact ⟨by rw [HN.out]; rfl, by rw [HN.out]; exact HRq.out, HUq.out⟩
  · have HN : Hid (rEnd bs ⟨a, er⟩ = (er, ⟨a, er⟩)) := Lib.hid (rEnd_else (fun h => he h.1))
    have q0 : (er == 0) = false := beq_eq_false_iff_ne.2 he
    go_enter Try.func48, Try.ntmps48
    go_wp2
    refine wp_region_quiet_below (by kernel_rfl) (by kernel_rfl) ?_
    repeat (first | go_big_quiet_step (fail) | quiet_step (fail))
    refine wpQuiet_nil ?_
    intro _ hw'
    obtain ⟨⟨dq, osq⟩, hw''⟩ := hw'
    subst hw''
    have bq := below_regrown w dq osq
    have HRq := Lib.hid (HR.out.below bq)
    have HUq := Lib.hid (Upd.of p bq)
    clear k0 k1 k2 bq
    generalize grow (redrawn w dq) osq = x at *
    have d2 := HRq.out.c2
    dsimp only at d2
    go_wp2
    go_ret
    exact ⟨by rw [HN.out]; rfl, by rw [HN.out]; exact HRq.out, HUq.out⟩
end Go.Proofs.Ytndfhnaafaijcaa

/- THE DOCUMENT's OWN ANSWER: impostref1's Reader: Text, Read; Text. (By genrefrw.py.) -/
namespace Go.Proofs.Ytndfhnaafaijcaa
open Go.RowKit
open Go.Sort (grow)
open Mem Pk

theorem rText_of {bs : List UInt8} {most : Int} {s s1 : St} {v : Int} (h : rCount bs most s = (v, s1)) : rText bs most s = (str ((bs.take (s1.at' + v.toNat)).drop s1.at'), ⟨s1.at' + v.toNat, s1.err⟩) := by unfold rText; rw [h]
theorem rText_none {bs : List UInt8} {most : Int} {s s1 : St} (h : rCount bs most s = (0, s1)) : rText bs most s = (.empty, s1) := by
  rw [rText_of h]
  obtain ⟨a, e⟩ := s1
  have e1 : (bs.take (a + (0 : Int).toNat)).drop a = [] := List.drop_eq_nil_of_le (by rw [List.length_take]; show min (a + 0) _ ≤ a; omega)
  dsimp only
  rw [e1]
  rfl
set_option maxHeartbeats 2000000 in
theorem ref_rd_text (p : Nat) (ao : Option Addr) (n cap : Nat) (bs : List UInt8) (most : Int) (s : St) (w : World) (hR : Rd w p ao n cap bs s) :
    Calls Try.prog 45 #[.pointer (some ⟨p, 0, none⟩), .int .i64 most] w fun e w' => e = .returned (.string (rText bs most s).1) ∧ Rd w' p ao n cap bs (rText bs most s).2 ∧ Upd w p w' := by
  have HR := Lib.hid hR
  have hpl := hR.place
  have c1 := hR.c1
  have hcap := hR.ls.reach
  have hfit := hR.ls.fits
  have HLen := Lib.hid hR.ls.len
  clear hR
  go_enter Try.func45, Try.ntmps45
  go_wp2_with fail
  refine (ref_rd_within p ao n cap bs 0 most s w HR.out).mono ?_
  rintro e w1 ⟨rfl, hR1, hU1⟩
  have hvf := rWithin_fit bs 0 most s
  have hpos := rWithin_pos bs most s
  have HZ0 := Lib.hid (rWithin_zero (bs := bs) (lo := 0) (hi := most) (s := s))
  obtain ⟨v, s1, hv⟩ : ∃ v s1, rWithin bs 0 most s = (v, s1) := ⟨_, _, rfl⟩
  have HV := Lib.hid hv
  rw [hv] at hR1 hvf hpos HZ0
  rw [hv]
  dsimp only at hvf hR1 hpos HZ0 ⊢
  unfold Fit at hvf
  have hpl1 := hR1.place
  have k0 := cell_regrown hR1.c0
  have k1 := cell_regrown hR1.c1
  have k2 := cell_regrown hR1.c2
  have HR1 := Lib.hid hR1
  have HU1 := Lib.hid hU1
  clear hR1 hU1 c1 hv
  obtain ⟨a1, e1⟩ := s1
  dsimp only at k1 k2 hpl1 HZ0
  by_cases he : e1 = 0
  · subst he
    by_cases hb : (n : Int) - (a1 : Int) < v
    · have HN : Hid (rText bs most s = (.empty, ⟨s.at', 3⟩)) := Lib.hid (rText_none (rCount_short (by rw [HV.out, ← HLen.out]; exact hb)))
      go_wp2
      refine wp_region_quiet_below (by kernel_rfl) (by kernel_rfl) ?_
      repeat (first | go_big_quiet_step (fail) | quiet_step (fail))
      refine wpQuiet_nil ?_
      intro _ hw'
      obtain ⟨⟨dq, osq⟩, hw''⟩ := hw'
      subst hw''
      have bq := below_regrown w1 dq osq
      have HRq := Lib.hid (HR1.out.below bq)
      have HUq := Lib.hid (HU1.out.trans (Upd.of p bq))
      clear k0 k1 k2 bq
      generalize grow (redrawn w1 dq) osq = x at *
      have d0 := HRq.out.c0
      have d1 := HRq.out.c1
      have d2 := HRq.out.c2
      have df := HRq.out.fz
      dsimp only at d1 d2
      go_wp2
      go_ret
      exact ⟨by rw [HN.out]; rfl, by rw [HN.out]; exact (HRq.out.wrong 3).at s.at' hpl, (HUq.out.trans (Upd.set _)).trans (Upd.set _)⟩
    · have HT : Hid (rText bs most s = (str ((bs.take (a1 + v.toNat)).drop a1), ⟨a1 + v.toNat, 0⟩)) := Lib.hid (rText_of (by rw [rCount_ok (by rw [HV.out, ← HLen.out]; exact hb), HV.out]))
      obtain ⟨q, rfl⟩ : ∃ q : Nat, v = q := ⟨v.toNat, by omega⟩
      rw [Int.toNat_natCast] at HT
      have hin : a1 + q ≤ n := by omega
      go_wp2
      refine wp_region_quiet_below (by kernel_rfl) (by kernel_rfl) ?_
      repeat (first | go_big_quiet_step (fail) | quiet_step (fail))
      refine wpQuiet_nil ?_
      intro _ hw'
      obtain ⟨⟨dq, osq⟩, hw''⟩ := hw'
      subst hw''
      have bq := below_regrown w1 dq osq
      have HRq := Lib.hid (HR1.out.below bq)
      have HUq := Lib.hid (HU1.out.trans (Upd.of p bq))
      clear k0 k1 k2 bq
      generalize grow (redrawn w1 dq) osq = x at *
      have d0 := HRq.out.c0
      have d1 := HRq.out.c1
      have d2 := HRq.out.c2
      have df := HRq.out.fz
      dsimp only at d1 d2
      obtain ⟨ao2, cap2, hsl, hL2⟩ := HRq.out.ls.mid a1 (a1 + q) (by omega) hin
      rw [show ((a1 + q : Nat) : Int) = (a1 : Int) + (q : Int) from by omega, show a1 + q - a1 = q by omega] at hsl
      rw [show a1 + q - a1 = q by omega] at hL2
      have hstr : ∀ (d : Nat) (os : Array Obj), (convert 38 9 (.slice ao2 q cap2)).run Try.prog (grow (redrawn x d) os) = .ok (.string (str ((bs.take (a1 + q)).drop a1))) (grow (redrawn x d) os) := fun d os => (hL2.below (below_regrown x d os)).str
      obtain ⟨S, hS⟩ : ∃ S, str ((bs.take (a1 + q)).drop a1) = S := ⟨_, rfl⟩
      rw [hS] at hstr HT
      have k0 := cell_regrown d0
      have k1 := cell_regrown d1
      clear hS hL2
      go_wp2
      refine wp_region_quiet_below (by kernel_rfl) (by kernel_rfl) ?_
      repeat (first | go_big_quiet_step (fail) | quiet_step (fail))
      refine wpQuiet_nil ?_
      intro _ hw'
      obtain ⟨⟨dz, osz⟩, hw''⟩ := hw'
      subst hw''
      have bz := below_regrown x dz osz
      have HRz := Lib.hid (HRq.out.below bz)
      have HUz := Lib.hid (HUq.out.trans (Upd.of p bz))
      clear k0 k1 bz hstr hsl d0 d1 d2 df
      generalize grow (redrawn x dz) osz = y at *
      have d1 := HRz.out.c1
      have df := HRz.out.fz
      dsimp only at d1
      go_wp2
      go_ret
      refine ⟨by rw [HT.out]; rfl, ?_, HUz.out.trans (Upd.set _)⟩
      rw [HT.out]
      have := HRz.out.at (a1 + q) hin
      simpa using this
  · have hv0 : v = 0 := HZ0.out he
    subst hv0
    have HN : Hid (rText bs most s = (.empty, ⟨a1, e1⟩)) := Lib.hid (rText_none (by rw [rCount_ok (by rw [HV.out, ← HLen.out]; dsimp only; omega), HV.out]))
    have hne : (e1 == 0) = false := beq_eq_false_iff_ne.2 he
    have hne' : (e1 != 0) = true := bne_iff_ne.2 he
    go_wp2
    refine wp_region_quiet_below (by kernel_rfl) (by kernel_rfl) ?_
    repeat (first | go_big_quiet_step (fail) | quiet_step (fail))
    refine wpQuiet_nil ?_
    intro _ hw'
    obtain ⟨⟨dq, osq⟩, hw''⟩ := hw'
    subst hw''
    have bq := below_regrown w1 dq osq
    have HRq := Lib.hid (HR1.out.below bq)
    have HUq := Lib.hid (HU1.out.trans (Upd.of p bq))
    clear k0 k1 k2 bq
    generalize grow (redrawn w1 dq) osq = x at *
    have d0 := HRq.out.c0
    have d1 := HRq.out.c1
    have d2 := HRq.out.c2
    have df := HRq.out.fz
    dsimp only at d1 d2
    go_wp2
    go_ret
    exact ⟨by rw [HN.out]; rfl, by rw [HN.out]; exact HRq.out, HUq.out⟩
set_option maxHeartbeats 2000000 in
theorem ref_read (bs : List UInt8) (ao : Option Addr) (m cap : Nat) (w : World) (hL : By.Ls w ao m cap bs) (hm : m ≤ 1000000000000) :
    Calls Try.prog 43 #[.slice ao m cap] w fun e w' => (∃ p bo bc, e = .returned (.pointer (some ⟨p, 0, none⟩)) ∧ w.heap.size ≤ p ∧ Rd w' p bo m bc bs ⟨0, 0⟩) ∧ Below w.heap.size w w' := by
  have HL := Lib.hid hL
  have HLen := Lib.hid hL.len
  have hcap := hL.reach
  have HBx := Lib.hid ((Below.refl w.heap.size w).alloc (Nat.le_refl _) (.cells #[] 5))
  clear hL
  go_enter Try.func43, Try.ntmps43
  go_wp2_with (at_builtin; go_must (refine By.wpList_append _ rfl (.tmp 3) (.tmp 4) rfl w.heap.size (.slice (some ⟨w.heap.size, 0, none⟩) 0 0) [] rfl (By.own_empty (Nat.le_refl _) (heap_alloc_new w _)) ao m cap bs rfl HLen.out HL.out.nil ((HL.out.below HBx.out).seg) (by simp only [List.length_nil]; omega) (by simp) ?_))
  intro v1 y1 o1 gr1 _
  have HB1 := Lib.hid (HBx.out.grown gr1 HBx.out.size (fun k hk => by cases hk; exact Nat.le_refl _))
  obtain ⟨bo, bc, rfl, hls, hbo⟩ := By.own_ls o1
  have HLt : Hid (∀ b off, bo = some ⟨b, off, none⟩ → b ≠ y1.heap.size) := Lib.hid (fun b off e => by
    rcases o1.2 with ⟨h', _⟩ | ⟨g, cap', cur, h', _, hg, _⟩
    · rw [e] at h'
      cases h'
    · rw [e] at h'
      simp only [Value.slice.injEq, Option.some.injEq, Addr.mk.injEq] at h'
      obtain ⟨hl, _⟩ := Array.getElem?_eq_some_iff.1 hg
      omega)
  rw [← HLen.out] at hls ⊢
  have HLs := Lib.hid hls
  have hs1 := HB1.out.size
  clear o1 gr1 hls hbo
  go_wp2
  go_ret
  have bx : Below y1.heap.size y1 (y1.alloc (.cells #[.slice bo m bc, .int .i64 0, .int .i64 0] 102)) := (Below.refl _ _).alloc (Nat.le_refl _) _
  exact ⟨⟨y1.heap.size, bo, bc, rfl, hs1, ⟨by simp [go_sem], by simp [go_sem], by simp [go_sem], fun o => by simp [go_sem], HLs.out.below bx, HLt.out, by show 0 ≤ m; omega⟩⟩, bchain HB1.out bx⟩
set_option maxHeartbeats 2000000 in
theorem ref_text (bs : List UInt8) (s : ByteArray) (hs : s.size ≤ 1000000000000) (ao : Option Addr) (m cap : Nat) (w : World) (hL : By.Ls w ao m cap bs) (hm : m ≤ 1000000000000) :
    Calls Try.prog 41 #[.slice ao m cap, .string s] w fun e w' => (∃ sv, e = .returned sv ∧ By.Own w' w.heap.size sv (bs ++ vb (zz s.size) ++ txt s)) ∧ Below w.heap.size w w' := by
  have HL := Lib.hid hL
  have HLen := Lib.hid hL.len
  have hcap := hL.reach
  obtain ⟨z, hz⟩ : ∃ z, s.size = z := ⟨_, rfl⟩
  have HZ := Lib.hid hz
  rw [hz] at hs ⊢
  obtain ⟨i0, hi, hz0, hz1, hz2⟩ := info_parts By.info
  clear hL
  go_enter Try.func41, Try.ntmps41
  go_wp2_with fail
  refine (ref_num bs (z : Int) ⟨by omega, by omega⟩ ao m cap w HL.out hm).mono ?_
  rintro e w1 ⟨⟨sv, rfl, ho⟩, b1⟩
  have HO := Lib.hid ho
  have HB1 := Lib.hid b1
  have hs1 := b1.size
  have HLl : Hid ((bs ++ vb (zz (z : Int))).length ≤ 1000000000010) := Lib.hid (by
    have := vbF_len 10 (zz (z : Int))
    rw [List.length_append, ← HLen.out]
    unfold vb
    omega)
  clear ho b1
  go_wp2_with (at_builtin; go_must (refine Lib.wpList_append_own_string _ rfl (.tmp 8) (.tmp 9) 38 9 rfl w.heap.size 5 i0 Try.underlying38 Try.underlying9 hi hz0 hz1 hz2 sv (bs ++ vb (zz (z : Int))).length ((bs ++ vb (zz (z : Int))).map By.bv) rfl HO.out s rfl (by unfold maxLen; have := HLl.out; have := HZ.out; omega) (by have := HLl.out; have := HZ.out; omega) hs1 ?_))
  intro v2 y2 o2 gr2 _
  have HB2 := Lib.hid (HB1.out.grown gr2 HB1.out.size (By.own_ge HO.out))
  have HO2 : Hid (By.Own y2 w.heap.size v2 (bs ++ vb (zz (z : Int)) ++ txt s)) := Lib.hid (by
    have e : Lib.strCells s = (txt s).map By.bv := rfl
    rw [e] at o2
    unfold By.Own
    simp only [List.map_append, List.length_append, txt_len, HZ.out, List.append_assoc]
    simpa only [Nat.add_assoc] using o2)
  clear o2 gr2
  go_wp2
  go_ret
  exact ⟨⟨v2, rfl, HO2.out⟩, HB2.out⟩
end Go.Proofs.Ytndfhnaafaijcaa
