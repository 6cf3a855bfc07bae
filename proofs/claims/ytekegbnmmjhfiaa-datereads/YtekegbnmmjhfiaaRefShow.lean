/- THE DOCUMENT's OWN ANSWER: impostref3's digits, ShowDate. -/
import Derived.Test.YtekegbnmmjhfiaaRefDate
import Derived.Test.YtekegbnmmjhfiaaTxtN
namespace Go.Proofs.Ytekegbnmmjhfiaa
open Go.RowKit

/-- a number's last digits -/
def digs (n : Nat) : Nat → List UInt8
  | 0 => []
  | i + 1 => Dt.dig (n / 10 ^ i) :: digs n i
theorem digs_len (n : Nat) : ∀ i, (digs n i).length = i
  | 0 => rfl
  | i + 1 => by rw [digs, List.length_cons, digs_len n i]
theorem digit_cell (u : World) (m : Nat) (l : List UInt8) (hl : l.length ≤ 10) : ∃ (x t : ByteArray), t = ⟨(Dt.dig m :: l).toArray⟩ ∧
    (convert 49 9 (.slice (some ⟨u.heap.size, 0, none⟩) 1 1)).run Try.prog (u.alloc (.cells #[.int .u8 (48 + (m : Int) % 10)] 5)) = .ok (.string x) (u.alloc (.cells #[.int .u8 (48 + (m : Int) % 10)] 5)) ∧
    ∀ v, (Op.stringOp .add x ⟨l.toArray⟩).run Try.prog v = .ok (.string t) v := by
  refine ⟨⟨[UInt8.ofNat (48 + m % 10)].toArray⟩, _, rfl, ?_, add_lists [Dt.dig m] l (by simp; omega)⟩
  have h := one_str u (48 + m % 10)
  rw [show ((48 + m % 10 : Nat) : Int) = 48 + (m : Int) % 10 from by omega] at h
  exact h
set_option maxHeartbeats 1000000 in
theorem digits_any (n k : Nat) (w0 w : World) (hw : Below w0.heap.size w0 w) (hn : n ≤ 9999) (hk : k ≤ 4) :
    Calls Try.prog 30 #[.int .i64 n, .int .i64 k] w fun e w' => e = .returned (.string ⟨(digs n k).toArray⟩) ∧ Below w0.heap.size w0 w' := by
  have HW := Lib.hid hw
  clear hw
  go_enter Try.func30, Try.ntmps30
  go_wp2
  go_loopw [0, 5, 6] (fun a s i wr => ∃ j m : Nat, j ≤ k ∧ m ≤ 9999 ∧ Hid (n / 10 ^ j = m) ∧ a = .int .i64 m ∧ s = .string ⟨(digs n j).toArray⟩ ∧ i = .int .i64 j ∧ Hid (Below w0.heap.size w0 wr)) (fun _ _ i _ => k - (intOf i).toNat)
  case atStart => exact ⟨0, n, Nat.zero_le _, hn, Nat.div_one n, rfl, rfl, rfl, HW.out⟩
  case round =>
    obtain ⟨j, m, hj, hm, HM, rfl, rfl, rfl, HB⟩ := hrel
    by_cases hlt : j < k
    · obtain ⟨x, t, ht, hcv, hadd⟩ := digit_cell wr m (digs n j) (by rw [digs_len]; omega)
      have HT : Hid (t = ⟨(digs n (j + 1)).toArray⟩) := Lib.hid (by rw [ht, digs, HM.out])
      have HM2 : Hid (n / 10 ^ (j + 1) = m / 10) := by
        show _ = _
        rw [Nat.pow_succ, ← Nat.div_div_eq_div_mul, HM.out]
      have HB2 : Hid (∀ X, Below w0.heap.size w0 (wr.alloc X)) := fun X => HB.out.alloc HB.out.size X
      generalize digs n j = l at *
      clear HM HB ht
      go_wp2
      go_roundw
      case rel => exact ⟨j + 1, m / 10, by omega, by omega, HM2.out, by go_num, by rw [HT.out], by go_num, HB2.out _⟩
      case measure => simp [intOf]; omega
    · obtain rfl : j = k := by omega
      go_wp2
      go_ret
      exact ⟨rfl, HB.out⟩
def digsI (n : Nat) (k : Int) : ByteArray := ⟨(digs n k.toNat).toArray⟩
theorem digits_gen (n : Nat) (k : Int) (w0 w : World) (hw : Below w0.heap.size w0 w) (hn : n ≤ 9999) (h0 : 0 ≤ k) (h1 : k ≤ 4) :
    Calls Try.prog 30 #[.int .i64 n, .int .i64 k] w fun e w' => e = .returned (.string (digsI n k)) ∧ Below w0.heap.size w0 w' := by
  have h := digits_any n k.toNat w0 w hw hn (by omega)
  rw [Int.toNat_of_nonneg h0] at h
  exact h
theorem digsI_4 (n : Nat) : (digsI n 4).size = 4 := by
  unfold digsI
  rw [size_mk, digs_len]
  rfl
theorem digsI_2 (n : Nat) : (digsI n 2).size = 2 := by
  unfold digsI
  rw [size_mk, digs_len]
  rfl
theorem joined (y m d : Nat) : ((((digs y 4 ++ [45]) ++ digs m 2) ++ [45]) ++ digs d 2) = Dt.bare y m d := by
  simp [digs, Dt.bare]
set_option maxHeartbeats 600000 in
theorem refShow_any (y m d : Int) (w0 w : World) (hw : Below w0.heap.size w0 w) :
    Calls Try.prog 17 #[dayV y m d] w fun e w' => e = .returned (.string ⟨(Dt.shown y m d).toArray⟩) ∧ Below w0.heap.size w0 w' := by
  have HW := Lib.hid hw
  clear hw
  unfold dayV
  by_cases h : Dt.rightB y m d = true
  · rw [Dt.shown_right h]
    obtain ⟨h1, h2, h3, h4, h5, h6⟩ := Dt.right_bd h
    obtain ⟨yn, rfl⟩ : ∃ u : Nat, y = u := ⟨y.toNat, by omega⟩
    obtain ⟨mn, rfl⟩ : ∃ u : Nat, m = u := ⟨m.toNat, by omega⟩
    obtain ⟨dn, rfl⟩ : ∃ u : Nat, d = u := ⟨d.toNat, by omega⟩
    rw [Int.toNat_natCast, Int.toNat_natCast, Int.toNat_natCast]
    have HJ := Lib.hid (joined yn mn dn)
    go_enter Try.func17, Try.ntmps17
    go_wp2_with fail
    refine (refRight_any yn mn dn _ _ (Below.refl _ _)).mono ?_
    rintro e w1 ⟨rfl, b1⟩
    have HB1 := Lib.hid b1
    rw [h]
    obtain ⟨W, hW⟩ : ∃ W, w.alloc (.cells #[.int .i64 (yn : Int), .int .i64 (mn : Int), .int .i64 (dn : Int)] 23) = W := ⟨_, rfl⟩
    have HBW : Hid (Below w0.heap.size w0 W) := Lib.hid (hW ▸ below_box HW.out _)
    rw [hW] at b1
    have l0 : ∀ u, Below W.heap.size W u → u.cell? ⟨w.heap.size, 0, none⟩ = some (.int .i64 (yn : Int)) := fun u hb => by
      rw [(bcell hb).1 _ _ (by rw [← hW]; simp), ← hW]
      simp
    have l1 : ∀ u, Below W.heap.size W u → u.cell? ⟨w.heap.size, 1, none⟩ = some (.int .i64 (mn : Int)) := fun u hb => by
      rw [(bcell hb).1 _ _ (by rw [← hW]; simp), ← hW]
      simp
    have l2 : ∀ u, Below W.heap.size W u → u.cell? ⟨w.heap.size, 2, none⟩ = some (.int .i64 (dn : Int)) := fun u hb => by
      rw [(bcell hb).1 _ _ (by rw [← hW]; simp), ← hW]
      simp
    obtain ⟨t1, _, x1, z1, a1⟩ := add_run (digsI yn 4) ⟨#[45]⟩ (by rw [digsI_4, size45]; omega)
    rw [digsI_4, size45] at z1
    obtain ⟨t2, _, x2, z2, a2⟩ := add_run t1 (digsI mn 2) (by rw [z1, digsI_2]; omega)
    rw [z1, digsI_2] at z2
    obtain ⟨t3, _, x3, z3, a3⟩ := add_run t2 ⟨#[45]⟩ (by rw [z2, size45]; omega)
    rw [z2, size45] at z3
    obtain ⟨t4, _, x4, z4, a4⟩ := add_run t3 (digsI dn 2) (by rw [z3, digsI_2]; omega)
    have HX : Hid (t4 = ⟨(Dt.bare yn mn dn).toArray⟩) := Lib.hid (txt_ext (by rw [x4, x3, x2, x1, txt_mk, ← HJ.out]; rfl))
    clear HJ hW HB1 x1 x2 x3 x4 z1 z2 z3 z4
    go_wp2
    go_region_held3 (fun u => Below W.heap.size W u) (first | assumption | exact b1.drew) (first | (go_at_call 30; refine (digits_gen _ _ W _ (by assumption) (by omega) (by omega) (by omega)).mono ?_; rintro e w' ⟨rfl, b⟩))
    go_wp2
    go_ret
    exact ⟨ret_str HX.out, HBW.out.trans (b.mono HBW.out.size)⟩
  · have h' : Dt.rightB y m d = false := by simpa using h
    rw [Dt.shown_not h']
    go_enter Try.func17, Try.ntmps17
    go_wp2_with fail
    refine (refRight_any y m d w0 _ (below_box HW.out _)).mono ?_
    rintro e w1 ⟨rfl, b1⟩
    have HB1 := Lib.hid b1
    clear b1
    rw [h']
    go_wp2
    go_ret
    exact ⟨rfl, HB1.out⟩
end Go.Proofs.Ytekegbnmmjhfiaa
