/- chapter 1's runs, walked. -/
import Derived.Test.YtehdhhmaijogbaaOpen
import Derived.Test.YtehdhhmaijogbaaApp
import Derived.Test.YtehdhhmaijogbaaBook
import Derived.Lib.SmallJoins
namespace Go.Proofs.Ytehdhhmaijogbaa
open Go.RowKit

theorem lt_alloc (u : World) (o : Obj) : u.heap.size < (u.alloc o).heap.size := by simp
theorem of_three (u : World) (p q r : List UInt8) (a b c : Option Addr) (n m l x y z g : Nat) (hg : g = u.heap.size) (h1 : Seg u a p) (h2 : Seg u b q) (h3 : Seg u c r) (e1 : n = p.length) (e2 : m = q.length) (e3 : l = r.length) (b1 : n ≤ 9223372036854775807) (b2 : m ≤ 9223372036854775807) (b3 : l ≤ 9223372036854775807) :
    Parts (u.alloc (.cells #[.slice a n x, .slice b m y, .slice c l z] 22)) g 0 [p, q, r] := by
  subst hg
  refine parts_cells (heap_alloc_new u _) fun k hk => ?_
  match k, hk with
  | 0, _ => exact ⟨a, n, x, rfl, e1, b1, h1.alloc _⟩
  | 1, _ => exact ⟨b, m, y, rfl, e2, b2, h2.alloc _⟩
  | 2, _ => exact ⟨c, l, z, rfl, e3, b3, h3.alloc _⟩
set_option maxHeartbeats 2000000 in
theorem runs_any (w : World) : Calls Try.prog 3 #[] w fun e w' => e = .returned (.bool true) ∧ Below w.heap.size w w' := by
  have hcv := Lib.run_convert_bytes_const (P := Try.prog) w 22 5 #[.int .u8 97, .int .u8 98] 2 2 Try.underlying22 Try.underlying5
  have s1 := seg_lit w [97, 98] (2, 3)
  go_enter Try.func3, Try.ntmps3
  go_wp2_with fail
  go_must (refine (seal_any [97, 98] _ 2 _ _ rfl (by omega) s1).mono ?_)
  clear s1 hcv
  rintro e w2 ⟨rfl, r2, b2⟩
  have HB2 : Hid (Below w.heap.size w w2) := ((Below.refl _ _).alloc (Nat.le_refl _) _).trans (b2.mono (by simp))
  have HR2 : Hid (Row w2 (w.heap.size + 1) ((Crc.sealed [97, 98]).map bv)) := by show Row _ _ _; simpa using r2
  clear b2 r2
  go_wp2_with fail
  refine (of_none _ _ _).mono ?_
  rintro e w3 ⟨rfl, rfl⟩
  go_wp2_with fail
  refine (on_none 0 _ _ _ (by omega)).mono ?_
  rintro e w4 ⟨rfl, rfl⟩
  go_wp2_with fail
  refine (seal_any [] _ 0 _ _ rfl (by omega) (.inl rfl)).mono ?_
  rintro e w5 ⟨rfl, r5, b5⟩
  have HB5 : Hid (Below w.heap.size w w5) := HB2.out.trans (b5.mono HB2.out.size)
  have HR5 : Hid (Row w5 (w.heap.size + 1) ((Crc.sealed [97, 98]).map bv)) := HR2.out.keep b5
  have HN5 : Hid (Row w5 w4.heap.size ((Crc.sealed []).map bv)) := r5
  clear r5 b5 HB2 HR2
  go_wp2_with fail
  refine (same_any (Crc.sealed []) [0, 0, 0, 0] _ _ 4 4 _ _ _ rfl rfl (by omega) (by omega) (HN5.out.alloc _).seg' (seg_lit w5 [0, 0, 0, 0] (0, 0))).mono ?_
  rw [show decide (Crc.sealed [] = [0, 0, 0, 0]) = true from by decide +kernel]
  rintro e w6 ⟨rfl, b6⟩
  have HB6 : Hid (Below w.heap.size w w6) := (HB5.out.alloc HB5.out.size _).trans (b6.mono (by simp; have := HB5.out.size; omega))
  have HR6 : Hid (Row w6 (w.heap.size + 1) ((Crc.sealed [97, 98]).map bv)) := (HR5.out.alloc _).keep b6
  clear b6 HB5 HR5 HN5
  have hsz6 : w.heap.size + 1 < w6.heap.size := HR6.out.lt
  go_wp2_with (at_builtin; go_must (refine wpList_append_bytes _ rfl _ _ rfl w6.heap.size 0 0 [] [] rfl (row_new w6 []) rfl rfl (by omega) _ 6 6 (Crc.sealed [97, 98]) rfl rfl (fun h => by cases h) (HR6.out.alloc _).seg' (by omega) ?_))
  intro g cp spare w7 r7 hg hcp hcpm hgrow
  have hcell : w7.cell? ⟨g, 0, none⟩ = some (.int .u8 97) := r7.cell 0 (by simp [Crc.sealed])
  have hfz := r7.frozen 0
  have hxo : bits .xor .u8 97 1 = 96 := by decide +kernel
  have HB7 : Hid (Below w.heap.size w (w7.setCell ⟨g, 0, none⟩ (.int .u8 96))) := (((HB6.out.alloc HB6.out.size _).grown hgrow (by simp; omega) (by rintro k ⟨⟩; omega)).setCell (p := ⟨g, 0, none⟩) (by show _ ≤ g; omega) _)
  have HR7 : Hid (Row (w7.setCell ⟨g, 0, none⟩ (.int .u8 96)) (w.heap.size + 1) ((Crc.sealed [97, 98]).map bv)) :=
    (heap_setCell_other w7 ⟨g, 0, none⟩ (w.heap.size + 1) _ (by show _ ≠ g; omega)).trans ((HR6.out.alloc _).grown hgrow (by omega))
  have HT7 : Hid (Row (w7.setCell ⟨g, 0, none⟩ (.int .u8 96)) g ((96 :: (Crc.sealed [97, 98]).tail).map bv ++ spare)) := r7.set 0 (.int .u8 96)
  have HC : Hid (cp = 6 + spare.length) := hcp
  clear r7 hgrow HB6 HR6 hcp
  go_wp2_with fail
  generalize w7.setCell ⟨g, 0, none⟩ (.int .u8 96) = w8 at *
  have hz8 : w.heap.size ≤ w8.heap.size := HB7.out.size
  refine (open_short _ 3 _ _ (by omega)).mono ?_
  rintro e w9 ⟨rfl, b9⟩
  have HB9 : Hid (Below w.heap.size w w9) := (HB7.out.alloc hz8 _).trans (b9.mono (by simp; omega))
  have HR9 : Hid (Row w9 (w.heap.size + 1) ((Crc.sealed [97, 98]).map bv)) := (HR7.out.alloc _).keep b9
  have HT9 : Hid (Row w9 g ((96 :: (Crc.sealed [97, 98]).tail).map bv ++ spare)) := (HT7.out.alloc _).keep b9
  clear b9 HB7 HR7 HT7 hz8
  go_wp2_with fail
  refine (open_bad (96 :: (Crc.sealed [97, 98]).tail) g 0 2 cp w9 rfl (by omega) (by have := HC.out; omega) (by omega) HT9.out.seg (by decide +kernel)).mono ?_
  rintro e w10 ⟨rfl, b10⟩
  have HB10 : Hid (Below w.heap.size w w10) := HB9.out.trans (b10.mono HB9.out.size)
  have HR10 : Hid (Row w10 (w.heap.size + 1) ((Crc.sealed [97, 98]).map bv)) := HR9.out.keep b10
  clear b10 HB9 HR9 HT9
  go_wp2_with fail
  refine (open_good (Crc.sealed [97, 98]) (w.heap.size + 1) 0 2 6 w10 rfl (by omega) (by omega) (by omega) HR10.out.seg' (by decide +kernel)).mono ?_
  rintro e w11 ⟨g2, rfl, hg2, r11, b11⟩
  have HB11 : Hid (Below w.heap.size w w11) := HB10.out.trans (b11.mono HB10.out.size)
  have HR11 : Hid (Row w11 g2 ([97, 98].map bv)) := r11
  clear b11 HB10 HR10 r11
  have cv1 := Lib.run_convert_bytes_const (P := Try.prog) w11 22 5 #[.int .u8 49, .int .u8 50] 2 2 Try.underlying22 Try.underlying5
  have cv2 := Go.Joins.run_convert_bytes_const_at (P := Try.prog) (w11.alloc (.cells #[.int .u8 49, .int .u8 50] 5 (2, 3))) 22 5 #[.int .u8 51, .int .u8 52, .int .u8 53] 3 3 (w11.heap.size + 1) (by simp) Try.underlying22 Try.underlying5
  go_wp2_with fail
  have s2 : Seg ((w11.alloc (.cells #[.int .u8 49, .int .u8 50] 5 (2, 3))).alloc (.cells #[.int .u8 51, .int .u8 52, .int .u8 53] 5 (3, 4))) (some ⟨w11.heap.size + 1, 0, none⟩) [51, 52, 53] := by
    have h := seg_lit (w11.alloc (.cells #[.int .u8 49, .int .u8 50] 5 (2, 3))) [51, 52, 53] (3, 4)
    simpa [bv] using h
  have s1 : Seg ((w11.alloc (.cells #[.int .u8 49, .int .u8 50] 5 (2, 3))).alloc (.cells #[.int .u8 51, .int .u8 52, .int .u8 53] 5 (3, 4))) (some ⟨w11.heap.size, 0, none⟩) [49, 50] := (seg_lit w11 [49, 50] (2, 3)).alloc _
  refine (of_any [[49, 50], [], [51, 52, 53]] _ 0 3 3 _ rfl (by omega) (of_three _ _ _ _ _ _ _ _ _ _ _ _ _ _ (by simp) s1 (.inl rfl) s2 rfl rfl rfl (by decide) (by decide) (by decide))).mono ?_
  rintro e _ ⟨rfl, rfl⟩
  clear s1 s2 cv1 cv2
  have HB12 : Hid (Below w.heap.size w (((w11.alloc (.cells #[.int .u8 49, .int .u8 50] 5 (2, 3))).alloc (.cells #[.int .u8 51, .int .u8 52, .int .u8 53] 5 (3, 4))).alloc (.cells #[.slice (some ⟨w11.heap.size, 0, none⟩) 2 2, .slice none 0 0, .slice (some ⟨w11.heap.size + 1, 0, none⟩) 3 3] 22))) :=
    ((HB11.out.alloc HB11.out.size _).alloc (by have := HB11.out.size; simp; omega) _).alloc (by have := HB11.out.size; simp; omega) _
  have HR12 : Hid (Row (((w11.alloc (.cells #[.int .u8 49, .int .u8 50] 5 (2, 3))).alloc (.cells #[.int .u8 51, .int .u8 52, .int .u8 53] 5 (3, 4))).alloc (.cells #[.slice (some ⟨w11.heap.size, 0, none⟩) 2 2, .slice none 0 0, .slice (some ⟨w11.heap.size + 1, 0, none⟩) 3 3] 22)) g2 ([97, 98].map bv)) := ((HR11.out.alloc _).alloc _).alloc _
  clear HB11 HR11
  generalize ((w11.alloc (.cells #[.int .u8 49, .int .u8 50] 5 (2, 3))).alloc (.cells #[.int .u8 51, .int .u8 52, .int .u8 53] 5 (3, 4))).alloc (.cells #[.slice (some ⟨w11.heap.size, 0, none⟩) 2 2, .slice none 0 0, .slice (some ⟨w11.heap.size + 1, 0, none⟩) 3 3] 22) = w12 at *
  have cv3 := Lib.run_convert_bytes_const (P := Try.prog) w12 22 5 #[.int .u8 49, .int .u8 50, .int .u8 51, .int .u8 52, .int .u8 53] 5 5 Try.underlying22 Try.underlying5
  go_wp2_with fail
  have s3 : Seg (w12.alloc (.cells #[.int .u8 49, .int .u8 50, .int .u8 51, .int .u8 52, .int .u8 53] 5 (5, 6))) (some ⟨w12.heap.size, 0, none⟩) [49, 50, 51, 52, 53] := seg_lit w12 [49, 50, 51, 52, 53] (5, 6)
  refine (of_one [49, 50, 51, 52, 53] _ 5 5 _ _ (by simp) s3 rfl (by omega)).mono ?_
  rintro e _ ⟨rfl, rfl⟩
  clear s3 cv3
  have HB13 : Hid (Below w.heap.size w ((w12.alloc (.cells #[.int .u8 49, .int .u8 50, .int .u8 51, .int .u8 52, .int .u8 53] 5 (5, 6))).alloc (.cells #[.slice (some ⟨w12.heap.size, 0, none⟩) 5 5] 22))) := (HB12.out.alloc HB12.out.size _).alloc (by have := HB12.out.size; simp; omega) _
  have r13 : Row ((w12.alloc (.cells #[.int .u8 49, .int .u8 50, .int .u8 51, .int .u8 52, .int .u8 53] 5 (5, 6))).alloc (.cells #[.slice (some ⟨w12.heap.size, 0, none⟩) 5 5] 22)) g2 ([97, 98].map bv) := (HR12.out.alloc _).alloc _
  have hst := run_convert_bytes_arg (P := Try.prog) ((w12.alloc (.cells #[.int .u8 49, .int .u8 50, .int .u8 51, .int .u8 52, .int .u8 53] 5 (5, 6))).alloc (.cells #[.slice (some ⟨w12.heap.size, 0, none⟩) 5 5] 22)) 22 5 Try.underlying22 Try.underlying5 g2 0 2 2 [97, 98] rfl (fun i hi => by
    match i, hi with
    | 0, _ => exact r13.cell 0 (by decide)
    | 1, _ => exact r13.cell 1 (by decide)) 9 Try.underlying9
  rw [show strOfNums [97, 98] = ⟨#[97, 98]⟩ from by decide +kernel] at hst
  clear r13
  go_wp2_with fail
  go_ret
  exact ⟨rfl, HB13.out⟩
theorem sumRuns_walk (w : World) : Calls Try.prog 3 #[] w fun e w' => e = .returned (.bool true) ∧ Below w.heap.size w w' := runs_any w
end Go.Proofs.Ytehdhhmaijogbaa
