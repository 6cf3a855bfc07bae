/- chapter 3's runs, walked. -/
import Derived.Test.YtgjfljpnlmebhabFold
import Derived.Test.YtgjfljpnlmebhabDigits
namespace Go.Proofs.Ytgjfljpnlmebhab
open Go.RowKit

theorem size_mk (l : List UInt8) : (ByteArray.mk l.toArray).size = l.length := rfl
theorem name_is (l : List UInt8) (b : Bool) (w : World) (h : Rn.name l = b) (hs : l.length ≤ 100) :
    Calls Try.prog 11 #[.string ⟨l.toArray⟩] w fun e w' => e = .returned (.bool b) ∧ Below w.heap.size w w' :=
  (name_any ⟨l.toArray⟩ w (by rw [size_mk]; omega)).mono fun _ _ ⟨h1, h2⟩ => ⟨by rw [h1, ← h]; rfl, h2⟩
theorem fold_is (l m : List UInt8) (w : World) (h : Rn.fold l = m) (hs : l.length ≤ 100) :
    Calls Try.prog 12 #[.string ⟨l.toArray⟩] w fun e w' => e = .returned (.string ⟨m.toArray⟩) ∧ Below w.heap.size w w' :=
  (fold_any ⟨l.toArray⟩ w (by rw [size_mk]; omega)).mono fun _ _ ⟨h1, h2⟩ => ⟨by rw [h1, ← h]; rfl, h2⟩
theorem same_is (l m : List UInt8) (b : Bool) (w : World) (h : (Rn.fold l == Rn.fold m) = b) (hs : l.length ≤ 100) (ht : m.length ≤ 100) :
    Calls Try.prog 13 #[.string ⟨l.toArray⟩, .string ⟨m.toArray⟩] w fun e w' => e = .returned (.bool b) ∧ Below w.heap.size w w' :=
  (same_any ⟨l.toArray⟩ ⟨m.toArray⟩ w (by rw [size_mk]; omega) (by rw [size_mk]; omega)).mono fun _ _ ⟨h1, h2⟩ => ⟨by rw [h1, ← h]; rfl, h2⟩
theorem width_is (l : List UInt8) (n : Nat) (w : World) (h : (Rn.runes l).length = n) (hs : l.length ≤ 100) :
    Calls Try.prog 6 #[.string ⟨l.toArray⟩] w fun e w' => e = .returned (.int .i64 n) ∧ Below w.heap.size w w' :=
  (width_any ⟨l.toArray⟩ w (by rw [size_mk]; omega)).mono fun _ _ ⟨h1, h2⟩ => ⟨by rw [h1, ← h]; rfl, h2⟩
theorem cut_is (l : List UInt8) (n : Int) (m : List UInt8) (w : World) (h : l.take (Rn.cut l n) = m) (hs : l.length ≤ 100) (h0 : -9223372036854775808 ≤ n) (h1 : n ≤ 9223372036854775807) :
    Calls Try.prog 7 #[.string ⟨l.toArray⟩, .int .i64 n] w fun e w' => e = .returned (.string ⟨m.toArray⟩) ∧ Below w.heap.size w w' :=
  (cut_any ⟨l.toArray⟩ n w (by rw [size_mk]; omega) h0 h1).mono fun _ _ ⟨h1, h2⟩ => ⟨by rw [h1, ← h]; rfl, h2⟩
theorem digits_is (l : List UInt8) (o : Option Nat) (w : World) (h : Rn.digits l = o) (hs : l.length ≤ 100) :
    Calls Try.prog 9 #[.string ⟨l.toArray⟩] w fun e w' => e = .returned (.tuple #[.int .i64 ((o.getD 0 : Nat) : Int), .bool o.isSome]) ∧ Below w.heap.size w w' :=
  (digits_any ⟨l.toArray⟩ w (by rw [size_mk]; omega)).mono fun _ _ ⟨h1, h2⟩ => ⟨by rw [h1, ← h]; rfl, h2⟩
theorem fits {s : ByteArray} (h : s.data.toList.length ≤ reachBytes) : s.size ≤ 140737488355328 := by
  have h1 := txt_len s
  unfold txt at h1
  unfold reachBytes at h
  omega
set_option maxHeartbeats 4000000 in
theorem runs_any (w : World) : Calls Try.prog 8 #[] w fun e w' => e = .returned (.bool true) ∧ Below w.heap.size w w' := by
  go_enter Try.func8, Try.ntmps8
  go_wp2_with fail
  refine (name_is [82, 111, 116, 45, 55] true _ (by decide +kernel) (by decide)).mono ?_
  rintro e w1 ⟨rfl, b1⟩
  have HB1 : Hid (Below w.heap.size w w1) := b1
  clear b1
  go_wp2_with fail
  refine (name_is [195, 156, 98, 117, 110, 103] true _ (by decide +kernel) (by decide)).mono ?_
  rintro e w2 ⟨rfl, b2⟩
  have HB2 : Hid (Below w.heap.size w w2) := HB1.out.trans (b2.mono HB1.out.size)
  clear b2 HB1
  go_wp2_with fail
  refine (name_is [55, 97] false _ (by decide +kernel) (by decide)).mono ?_
  rintro e w3 ⟨rfl, b3⟩
  have HB3 : Hid (Below w.heap.size w w3) := HB2.out.trans (b3.mono HB2.out.size)
  clear b3 HB2
  go_wp2_with fail
  refine (name_is [97, 32, 98] false _ (by decide +kernel) (by decide)).mono ?_
  rintro e w4 ⟨rfl, b4⟩
  have HB4 : Hid (Below w.heap.size w w4) := HB3.out.trans (b4.mono HB3.out.size)
  clear b4 HB3
  go_wp2_with fail
  refine (name_is [97, 255] false _ (by decide +kernel) (by decide)).mono ?_
  rintro e w5 ⟨rfl, b5⟩
  have HB5 : Hid (Below w.heap.size w w5) := HB4.out.trans (b5.mono HB4.out.size)
  clear b5 HB4
  go_wp2_with fail
  refine (name_is [] false _ (by decide +kernel) (by decide)).mono ?_
  rintro e w6 ⟨rfl, b6⟩
  have HB6 : Hid (Below w.heap.size w w6) := HB5.out.trans (b6.mono HB5.out.size)
  clear b6 HB5
  go_wp2_with fail
  refine (fold_is [195, 132, 98, 67, 195, 151] [195, 164, 98, 99, 195, 151] _ (by decide +kernel) (by decide)).mono ?_
  rintro e w7 ⟨rfl, b7⟩
  have HB7 : Hid (Below w.heap.size w w7) := HB6.out.trans (b7.mono HB6.out.size)
  clear b7 HB6
  go_wp2_with fail
  refine (same_is [83, 84, 82, 65, 83, 83, 69] [115, 116, 114, 97, 115, 115, 101] true _ (by decide +kernel) (by decide) (by decide)).mono ?_
  rintro e w8 ⟨rfl, b8⟩
  have HB8 : Hid (Below w.heap.size w w8) := HB7.out.trans (b8.mono HB7.out.size)
  clear b8 HB7
  go_wp2_with fail
  refine (width_is [97, 195, 169, 255] 3 _ (by decide +kernel) (by decide)).mono ?_
  rintro e w9 ⟨rfl, b9⟩
  have HB9 : Hid (Below w.heap.size w w9) := HB8.out.trans (b9.mono HB8.out.size)
  clear b9 HB8
  go_wp2_with fail
  refine (cut_is [97, 195, 169, 98] 2 [97, 195, 169] _ (by decide +kernel) (by decide) (by decide) (by decide)).mono ?_
  rintro e w10 ⟨rfl, b10⟩
  have HB10 : Hid (Below w.heap.size w w10) := HB9.out.trans (b10.mono HB9.out.size)
  clear b10 HB9
  go_wp2_with fail
  refine (digits_is [49, 50, 48] (some 120) _ (by decide +kernel) (by decide)).mono ?_
  rintro e w11 ⟨rfl, b11⟩
  have HB11 : Hid (Below w.heap.size w w11) := HB10.out.trans (b11.mono HB10.out.size)
  clear b11 HB10
  go_wp2_with fail
  refine (digits_is [48] (some 0) _ (by decide +kernel) (by decide)).mono ?_
  rintro e w12 ⟨rfl, b12⟩
  have HB12 : Hid (Below w.heap.size w w12) := HB11.out.trans (b12.mono HB11.out.size)
  clear b12 HB11
  go_wp2_with fail
  refine (digits_is [48, 48, 55] none _ (by decide +kernel) (by decide)).mono ?_
  rintro e w13 ⟨rfl, b13⟩
  have HB13 : Hid (Below w.heap.size w w13) := HB12.out.trans (b13.mono HB12.out.size)
  clear b13 HB12
  go_wp2_with fail
  refine (digits_is [217, 163] none _ (by decide +kernel) (by decide)).mono ?_
  rintro e w14 ⟨rfl, b14⟩
  have HB14 : Hid (Below w.heap.size w w14) := HB13.out.trans (b14.mono HB13.out.size)
  clear b14 HB13
  go_wp2_with fail
  refine (digits_is [49, 50, 51, 52, 53, 54, 55, 56, 57, 48, 49, 50, 51, 52, 53, 54, 55, 56, 57] none _ (by decide +kernel) (by decide)).mono ?_
  rintro e w15 ⟨rfl, b15⟩
  have HB15 : Hid (Below w.heap.size w w15) := HB14.out.trans (b15.mono HB14.out.size)
  clear b15 HB14
  go_wp2_with fail
  go_ret
  exact ⟨rfl, HB15.out⟩
theorem signRuns_walk (w : World) : Calls Try.prog 8 #[] w fun e w' => e = .returned (.bool true) ∧ Below w.heap.size w w' := runs_any w
end Go.Proofs.Ytgjfljpnlmebhab
