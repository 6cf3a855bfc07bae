/- THE WALK OF SumTells. -/
import Derived.Test.YtehdhhmaijogbaaRuns
import Derived.Test.YtehdhhmaijogbaaRefSum
import Derived.Test.YtehdhhmaijogbaaRoomy
import Derived.Test.YtehdhhmaijogbaaArgs
namespace Go.Proofs.Ytehdhhmaijogbaa
open Go.RowKit

set_option maxHeartbeats 2000000 in
theorem tells_core (c : Nat) (a1 : Option Addr) (len1 cap1 : Nat) (p : List UInt8) (a2 : Option Addr) (len2 cap2 : Nat) (q : List UInt8) (w : World) (hc : c < 4294967296) (w1 : IsBytes w a1 len1 cap1 p) (w2 : IsBytes w a2 len2 cap2 q) :
    Calls Try.prog 4 #[.int .u32 (c : Int), .slice a1 len1 cap1, .slice a2 len2 cap2] w fun e w' => e = .returned (.bool true) ∧ Below w.heap.size w w' := by
  have hl1 : len1 ≤ 140737488351232 := Nat.le_trans w1.fits w1.reach
  have hl2 : len2 ≤ 140737488351232 := Nat.le_trans w2.fits w2.reach
  have L1 : Hid (len1 = p.length) := w1.len
  have L2 : Hid (len2 = q.length) := w2.len
  have S1 : Hid (Seg w a1 p) := w1.seg
  have S2 : Hid (Seg w a2 q) := w2.seg
  clear w1 w2
  go_enter Try.func4, Try.ntmps4
  go_wp2_with fail
  go_must (refine (roomy_any p 91 _ _ _ _ L1.out (by omega) S1.out).mono ?_)
  rintro e u1 ⟨rfl, r1, b1⟩
  have HB1 : Hid (Below w.heap.size w u1) := b1
  have HR1 : Hid (Row u1 w.heap.size (p.map bv ++ List.replicate 80 (bv 91))) := r1
  have T1 : Hid (Seg u1 a1 p) := S1.out.below b1
  have T2 : Hid (Seg u1 a2 q) := S2.out.below b1
  have hz1 : Hid (w.heap.size < u1.heap.size) := r1.lt
  clear r1 b1 S1 S2
  go_wp2_with fail
  refine (refOn_any 0 p _ _ _ _ (by omega) L1.out (by omega) T1.out).mono ?_
  rintro e u2 ⟨rfl, rfl⟩
  have ho := Crc.on_lt 0 p (by omega)
  go_wp2_with fail
  refine (on_any c p _ _ _ _ hc L1.out (by omega) HR1.out.seg).mono ?_
  rintro e u3 ⟨rfl, rfl⟩
  go_wp2_with fail
  refine (refOn_any c p _ _ _ _ hc L1.out (by omega) T1.out).mono ?_
  rintro e u4 ⟨rfl, rfl⟩
  go_wp2_with fail
  refine (of_one p _ _ _ _ _ (by simp) HR1.out.seg L1.out (by omega)).mono ?_
  rintro e _ ⟨rfl, rfl⟩
  have HB5 : Hid (Below w.heap.size w (u4.alloc (.cells #[.slice (some ⟨w.heap.size, 0, none⟩) len1 (len1 + 80)] 22))) := HB1.out.alloc HB1.out.size _
  have HR5 : Hid (Row (u4.alloc (.cells #[.slice (some ⟨w.heap.size, 0, none⟩) len1 (len1 + 80)] 22)) w.heap.size (p.map bv ++ List.replicate 80 (bv 91))) := HR1.out.alloc _
  have T51 : Hid (Seg (u4.alloc (.cells #[.slice (some ⟨w.heap.size, 0, none⟩) len1 (len1 + 80)] 22)) a1 p) := T1.out.alloc _
  have T52 : Hid (Seg (u4.alloc (.cells #[.slice (some ⟨w.heap.size, 0, none⟩) len1 (len1 + 80)] 22)) a2 q) := T2.out.alloc _
  clear HB1 HR1 T1 T2 hz1
  generalize u4.alloc (.cells #[.slice (some ⟨w.heap.size, 0, none⟩) len1 (len1 + 80)] 22) = u5 at *
  go_wp2_with fail
  refine (of_two p q _ _ _ _ _ _ _ _ (by simp) HR5.out.seg T52.out L1.out L2.out (by omega) (by omega)).mono ?_
  rintro e _ ⟨rfl, rfl⟩
  have HB6 : Hid (Below w.heap.size w (u5.alloc (.cells #[.slice (some ⟨w.heap.size, 0, none⟩) len1 (len1 + 80), .slice a2 len2 cap2] 22))) := HB5.out.alloc HB5.out.size _
  have HR6 : Hid (Row (u5.alloc (.cells #[.slice (some ⟨w.heap.size, 0, none⟩) len1 (len1 + 80), .slice a2 len2 cap2] 22)) w.heap.size (p.map bv ++ List.replicate 80 (bv 91))) := HR5.out.alloc _
  have T61 : Hid (Seg (u5.alloc (.cells #[.slice (some ⟨w.heap.size, 0, none⟩) len1 (len1 + 80), .slice a2 len2 cap2] 22)) a1 p) := T51.out.alloc _
  have T62 : Hid (Seg (u5.alloc (.cells #[.slice (some ⟨w.heap.size, 0, none⟩) len1 (len1 + 80), .slice a2 len2 cap2] 22)) a2 q) := T52.out.alloc _
  clear HB5 HR5 T51 T52
  generalize u5.alloc (.cells #[.slice (some ⟨w.heap.size, 0, none⟩) len1 (len1 + 80), .slice a2 len2 cap2] 22) = u6 at *
  go_wp2_with fail
  refine (refOn_any _ q _ _ _ _ ho L2.out (by omega) T62.out).mono ?_
  rintro e u7 ⟨rfl, rfl⟩
  go_wp2_with fail
  refine (intact_any p 91 _ _ _ _ _ L1.out (by omega) T61.out HR6.out).mono ?_
  rintro e u8 ⟨rfl, b8⟩
  have HB8 : Hid (Below w.heap.size w u8) := HB6.out.trans (b8.mono HB6.out.size)
  clear b8 HB6 HR6 T61 T62
  go_wp2_with fail
  refine (runs_any _).mono ?_
  rintro e u9 ⟨rfl, b9⟩
  have HB9 : Hid (Below w.heap.size w u9) := HB8.out.trans (b9.mono HB8.out.size)
  clear b9 HB8
  go_wp2_with fail
  go_ret
  exact ⟨rfl, HB9.out⟩
theorem sumTells_walk (a0 : Int) (a1 : Option Addr) (len1 cap1 : Nat) (z1 : List UInt8) (a2 : Option Addr) (len2 cap2 : Nat) (z2 : List UInt8) (w : World) (w0 : (Lit.int .u32 a0).wf = true) (w1 : IsBytes w a1 len1 cap1 z1) (w2 : IsBytes w a2 len2 cap2 z2) :
    Calls Try.prog 4 #[.int .u32 a0, .slice a1 len1 cap1, .slice a2 len2 cap2] w fun e w' => e = .returned (.bool true) ∧ Below w.heap.size w w' := by
  obtain ⟨c, rfl, hc⟩ := u32_in w0
  exact tells_core c a1 len1 cap1 z1 a2 len2 cap2 z2 w hc w1 w2
end Go.Proofs.Ytehdhhmaijogbaa
