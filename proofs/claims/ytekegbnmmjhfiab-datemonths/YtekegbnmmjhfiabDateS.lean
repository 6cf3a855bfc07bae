/- CONTRACTS OF PACKAGE date: two, Show. -/
import Derived.Test.YtekegbnmmjhfiabDateR
namespace Go.Proofs.Ytekegbnmmjhfiab
open Go.RowKit

theorem two_str (u : World) (a b : Nat) : (convert 43 9 (.slice (some ⟨u.heap.size, 0, none⟩) 2 2)).run Try.prog (u.alloc (.cells #[.int .u8 (a : Int), .int .u8 (b : Int)] 5)) = .ok (.string ⟨[UInt8.ofNat a, UInt8.ofNat b].toArray⟩) (u.alloc (.cells #[.int .u8 (a : Int), .int .u8 (b : Int)] 5)) := by
  have hr := run_convert_bytes_arg (P := Try.prog) (u.alloc (.cells #[.int .u8 (a : Int), .int .u8 (b : Int)] 5)) 43 5 Try.underlying43 Try.underlying5 u.heap.size 0 2 2 [(a : Int), (b : Int)] rfl (fun i hi => by
    have : i = 0 ∨ i = 1 := by omega
    rcases this with rfl | rfl <;> simp) 9 Try.underlying9
  rw [hr]
  rfl
/-- a number, 0 to 99, in two digits -/
def twoI (k : Int) : ByteArray := ⟨[Dt.dig (k.toNat / 10), Dt.dig k.toNat].toArray⟩
theorem twoI_size (k : Int) : (twoI k).size = 2 := rfl
theorem twoI_txt (k : Int) : txt (twoI k) = [Dt.dig (k.toNat / 10), Dt.dig k.toNat] := rfl
theorem two_cell (u : World) (n : Nat) (hn : n ≤ 99) :
    (convert 43 9 (.slice (some ⟨u.heap.size, 0, none⟩) 2 2)).run Try.prog (u.alloc (.cells #[.int .u8 (48 + (n : Int) / 10), .int .u8 (48 + (n : Int) % 10)] 5)) = .ok (.string (twoI n)) (u.alloc (.cells #[.int .u8 (48 + (n : Int) / 10), .int .u8 (48 + (n : Int) % 10)] 5)) := by
  have h := two_str u (48 + n / 10 % 10) (48 + n % 10)
  rw [show ((48 + n / 10 % 10 : Nat) : Int) = 48 + (n : Int) / 10 from by omega, show ((48 + n % 10 : Nat) : Int) = 48 + (n : Int) % 10 from by omega] at h
  exact h
set_option maxHeartbeats 1000000 in
theorem two_date (k : Int) (w0 w : World) (hw : Below w0.heap.size w0 w) (h0 : 0 ≤ k) (h1 : k ≤ 99) :
    Calls Try.prog 17 #[.int .i64 k] w fun e w' => e = .returned (.string (twoI k)) ∧ Below w0.heap.size w0 w' := by
  have HW := Lib.hid hw
  clear hw
  obtain ⟨n, rfl⟩ : ∃ u : Nat, k = u := ⟨k.toNat, by omega⟩
  have hcv := two_cell w n (by omega)
  go_enter Try.func17, Try.ntmps17
  go_wp2
  go_ret
  exact ⟨rfl, below_box HW.out _⟩
theorem joined2 (y m d : Nat) : ((((([Dt.dig (y / 100 / 10), Dt.dig (y / 100)] ++ [Dt.dig (y % 100 / 10), Dt.dig (y % 100)]) ++ [45]) ++ [Dt.dig (m / 10), Dt.dig m]) ++ [45]) ++ [Dt.dig (d / 10), Dt.dig d]) = Dt.bare y m d := by
  have e1 : y / 100 / 10 = y / 1000 := by omega
  have e2 : Dt.dig (y % 100 / 10) = Dt.dig (y / 10) := by
    unfold Dt.dig
    rw [show y % 100 / 10 % 10 = y / 10 % 10 by omega]
  have e3 : Dt.dig (y % 100) = Dt.dig y := by
    unfold Dt.dig
    rw [show y % 100 % 10 = y % 10 by omega]
  rw [e1, e2, e3]
  rfl
set_option maxHeartbeats 1000000 in
theorem show_date (y m d : Int) (w0 w : World) (hw : Below w0.heap.size w0 w) (hy : Fit y) (hm : Fit m) (hd : Fit d) :
    Calls Try.prog 11 #[dayV y m d] w fun e w' => e = .returned (.string ⟨(Dt.shown y m d).toArray⟩) ∧ Below w0.heap.size w0 w' := by
  have HW := Lib.hid hw
  clear hw
  by_cases h : Dt.rightB y m d = true
  · rw [Dt.shown_right h]
    obtain ⟨h1, h2, h3, h4, h5, h6⟩ := Dt.right_bd h
    obtain ⟨yn, rfl⟩ : ∃ u : Nat, y = u := ⟨y.toNat, by omega⟩
    obtain ⟨mn, rfl⟩ : ∃ u : Nat, m = u := ⟨m.toNat, by omega⟩
    obtain ⟨dn, rfl⟩ : ∃ u : Nat, d = u := ⟨d.toNat, by omega⟩
    rw [Int.toNat_natCast, Int.toNat_natCast, Int.toNat_natCast]
    have HJ := Lib.hid (joined2 yn mn dn)
    unfold dayV
    go_enter Try.func11, Try.ntmps11
    go_wp2_with fail
    refine (right_date yn mn dn _ _ (Below.refl _ _) hy hm hd).mono ?_
    rintro e w1 ⟨rfl, b1⟩
    rw [h]
    obtain ⟨W, hW⟩ : ∃ W, w.alloc (.cells #[.int .i64 (yn : Int), .int .i64 (mn : Int), .int .i64 (dn : Int)] 23) = W := ⟨_, rfl⟩
    have HBW : Hid (Below w0.heap.size w0 W) := Lib.hid (hW ▸ below_box HW.out _)
    rw [hW] at b1
    have l0 : ∀ u, Below W.heap.size W u → u.cell? ⟨w.heap.size, 0, none⟩ = some (.int .i64 (yn : Int)) := fun u hb => by
      rw [(bcell hb).1 _ _ (by rw [← hW]; simp), ← hW]
      simp
    have l1 : ∀ u, Below W.heap.size W u → u.cell? ⟨w.heap.size, 1, none⟩ = some (.int .i64 (mn : Int)) := fun u hb => by
      rw [(bcell hb).1 _ _ (by rw [← hW]; simp), ← hW]
      simp
    have l2 : ∀ u, Below W.heap.size W u → u.cell? ⟨w.heap.size, 2, none⟩ = some (.int .i64 (dn : Int)) := fun u hb => by
      rw [(bcell hb).1 _ _ (by rw [← hW]; simp), ← hW]
      simp
    obtain ⟨q, hq⟩ : ∃ q : Int, ((yn / 100 : Nat) : Int) = q := ⟨_, rfl⟩
    obtain ⟨r, hr⟩ : ∃ r : Int, ((yn % 100 : Nat) : Int) = r := ⟨_, rfl⟩
    have eq1 : IntKind.i64.wrap ((yn : Int) / 100) = q := by rw [IntKind.wrap_i64]; omega
    have er1 : (yn : Int).tmod 100 = r := by rw [Int.tmod_eq_emod_of_nonneg (by omega)]; omega
    obtain ⟨t0, _, x0, z0, a0⟩ := add_run (twoI q) (twoI r) (by rw [twoI_size, twoI_size]; omega)
    rw [twoI_size, twoI_size] at z0
    obtain ⟨t1, _, x1, z1, a1⟩ := add_run t0 ⟨#[45]⟩ (by rw [z0, size45]; omega)
    rw [z0, size45] at z1
    obtain ⟨t2, _, x2, z2, a2⟩ := add_run t1 (twoI mn) (by rw [z1, twoI_size]; omega)
    rw [z1, twoI_size] at z2
    obtain ⟨t3, _, x3, z3, a3⟩ := add_run t2 ⟨#[45]⟩ (by rw [z2, size45]; omega)
    rw [z2, size45] at z3
    obtain ⟨t4, _, x4, z4, a4⟩ := add_run t3 (twoI dn) (by rw [z3, twoI_size]; omega)
    have HX : Hid (t4 = ⟨(Dt.bare yn mn dn).toArray⟩) := Lib.hid (txt_ext (by
      rw [x4, x3, x2, x1, x0, ← HJ.out, ← hq, ← hr]
      rfl))
    have hq0 : 0 ≤ q := by omega
    have hq1 : q ≤ 99 := by omega
    have hr0 : 0 ≤ r := by omega
    have hr1 : r ≤ 99 := by omega
    clear HJ hW x0 x1 x2 x3 x4 z0 z1 z2 z3 z4 hq hr hy hm hd
    go_wp2
    go_region_held3 (fun u => Below W.heap.size W u) (first | assumption | exact b1.drew) (first | (go_at_call 17; refine (two_date _ W _ (by assumption) (by omega) (by omega)).mono ?_; rintro e w' ⟨rfl, b⟩))
    go_wp2
    go_ret
    exact ⟨ret_str HX.out, HBW.out.trans (b.mono HBW.out.size)⟩
  · have h' : Dt.rightB y m d = false := by simpa using h
    rw [Dt.shown_not h']
    unfold dayV
    go_enter Try.func11, Try.ntmps11
    go_wp2_with fail
    refine (right_date y m d w0 _ (below_box HW.out _) hy hm hd).mono ?_
    rintro e w1 ⟨rfl, b1⟩
    have HB1 := Lib.hid b1
    clear b1
    rw [h']
    go_wp2
    go_ret
    exact ⟨rfl, HB1.out⟩
end Go.Proofs.Ytekegbnmmjhfiab
