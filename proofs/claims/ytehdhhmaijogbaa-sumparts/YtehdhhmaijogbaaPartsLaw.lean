/- THE WALK OF SumParts. -/
import Derived.Test.YtehdhhmaijogbaaRuns
import Derived.Test.YtehdhhmaijogbaaArgs
import Derived.Deep.RegionHeld3
namespace Go.Proofs.Ytehdhhmaijogbaa
open Go.RowKit

set_option maxHeartbeats 4000000 in
theorem parts_core (b off n cap : Nat) (p : List UInt8) (at_ to_ : Int) (w : World) (hat : -9223372036854775808 ≤ at_ ∧ at_ ≤ 9223372036854775807) (hto : -9223372036854775808 ≤ to_ ∧ to_ ≤ 9223372036854775807)
    (hl : n ≤ cap) (hr : cap ≤ 140737488351232) (hn : n = p.length) (hs : Seg w (some ⟨b, off, none⟩) p) :
    Calls Try.prog 5 #[.slice (some ⟨b, off, none⟩) n cap, .int .i64 at_, .int .i64 to_] w fun e w' => e = .returned (.bool true) ∧ Below w.heap.size w w' := by
  have HN : Hid (n = p.length) := hn
  have HS : Hid (Seg w (some ⟨b, off, none⟩) p) := hs
  clear hn hs
  go_enter Try.func5, Try.ntmps5
  go_wp2_with fail
  refine (within_any _ _ _ _ hat (by omega) (by omega) (by omega)).mono ?_
  rintro e u1 ⟨⟨i', rfl, hi0, hi1⟩, rfl⟩
  obtain ⟨i, rfl⟩ := Int.eq_ofNat_of_zero_le hi0
  have hin : i ≤ n := by omega
  go_wp2_with fail
  refine (within_any _ _ _ _ hto (by omega) (by omega) (by omega)).mono ?_
  rintro e u2 ⟨⟨k', rfl, hk0, hk1⟩, rfl⟩
  obtain ⟨k, rfl⟩ := Int.eq_ofNat_of_zero_le (by omega : 0 ≤ k')
  have hik : i ≤ k := by omega
  have hkn : k ≤ n := by omega
  clear hi0 hi1 hk0 hk1
  go_wp2_with fail
  refine (of_one p _ _ _ _ _ (by simp) HS.out HN.out (by omega)).mono ?_
  rintro e _ ⟨rfl, rfl⟩
  have a1 : (0 : Int) ≤ (i : Int) := by omega
  have a2 : (i : Int) ≤ (k : Int) := by omega
  have a3 : (k : Int) ≤ (n : Int) := by omega
  have a4 : (n : Int) ≤ (cap : Int) := by omega
  have a5 : (i : Int) ≤ (cap : Int) := by omega
  have a6 : (k : Int) ≤ (cap : Int) := by omega
  have a7 : (i : Int) ≤ (n : Int) := by omega
  have a8 : (0 : Int) ≤ (k : Int) := by omega
  have HB3 : Hid (Below u2.heap.size u2 (u2.alloc (.cells #[.slice (some ⟨b, off, none⟩) n cap] 22))) := (Below.refl _ _).alloc (Nat.le_refl _) _
  have HS3 : Hid (Seg (u2.alloc (.cells #[.slice (some ⟨b, off, none⟩) n cap] 22)) (some ⟨b, off, none⟩) p) := HS.out.alloc _
  clear HS
  generalize u2.alloc (.cells #[.slice (some ⟨b, off, none⟩) n cap] 22) = u3 at *
  have E1 : Hid (Crc.on 0 [p.take i, [], (p.drop i).take (k - i), p.drop k].flatten = Crc.on 0 p) := by
    show _ = _
    congr 1
    have e : p.drop k = (p.drop i).drop (k - i) := by rw [List.drop_drop]; congr 1; omega
    rw [e]
    simp only [List.flatten_cons, List.flatten_nil, List.nil_append, List.append_nil, List.take_append_drop]
  have E2 : Hid (Crc.on (Crc.on 0 (p.take i)) (p.drop i) = Crc.on 0 p) := by
    show _ = _
    rw [← Crc.on_append, List.take_append_drop]
  have hoi := Crc.on_lt 0 (p.take i) (by omega)
  have P1 : Hid (∀ X, Parts ((u3.alloc X).alloc (.cells #[.slice (some ⟨b, off, none⟩) i cap] 22)) (u3.heap.size + 1) 0 [p.take i]) := by
    intro X
    have h := parts_one (u := u3.alloc X) (cap := cap) ((HS3.out.take i).alloc X) (n := i) (by have := HN.out; simp; omega) (by omega)
    simpa using h
  have C5 : Hid (∀ W ao m cp, Seg W ao (p.drop i) → m = n - i → Calls Try.prog 11 #[.int .u32 (Crc.on 0 (p.take i) : Nat), .slice ao m cp] W fun e w' => e = .returned (.int .u32 (Crc.on 0 p : Nat)) ∧ w' = W) := by
    intro W ao m cp h hm
    have := on_any _ (p.drop i) ao m cp W hoi (by have := HN.out; simp; omega) (by omega) h
    rwa [E2.out] at this
  have HBX : Hid (∀ X Y u9, Below ((u3.alloc X).alloc Y).drew.heap.size ((u3.alloc X).alloc Y).drew u9 → Below u2.heap.size u2 u9) := by
    intro X Y u9 h
    have hz := HB3.out.size
    exact (((HB3.out.alloc hz X).alloc (by simp; omega) Y).drew).trans (h.mono (by simp; omega))
  have C4 : Hid (∀ W g, Parts W g 0 [p.take i, [], (p.drop i).take (k - i), p.drop k] → Calls Try.prog 10 #[.slice (some ⟨g, 0, none⟩) 4 4] W fun e w' => e = .returned (.int .u32 (Crc.on 0 p : Nat)) ∧ w' = W) := by
    intro W g h
    have := of_any _ g 0 4 4 W rfl (by omega) h
    rwa [E1.out] at this
  rcases (by omega : k < cap ∨ (i < cap ∧ k = cap) ∨ i = cap) with hcase | ⟨hcase, hk⟩ | hi
  · -- k lies ahead of the room's end
    have hci : ¬ cap = i := by omega
    have hck : ¬ cap = k := by omega
    have P4 : Hid (Parts (u3.alloc (.cells #[.slice (some ⟨b, off, none⟩) i cap, .slice none 0 0, .slice (some ⟨b, off + i, none⟩) (k - i) (cap - i), .slice (some ⟨b, off + k, none⟩) (n - k) (cap - k)] 22)) u3.heap.size 0 [p.take i, [], (p.drop i).take (k - i), p.drop k]) := by
      have hn := HN.out
      refine parts_cells (heap_alloc_new u3 _) fun j hj => ?_
      match j, hj with
      | 0, _ => exact ⟨_, _, _, rfl, by simp <;> omega, by omega, ((HS3.out.take i).alloc _)⟩
      | 1, _ => exact ⟨_, _, _, rfl, rfl, by omega, .inl rfl⟩
      | 2, _ => exact ⟨_, _, _, rfl, by simp <;> omega, by omega, ((Seg.takes (by first | exact HS3.out.drop i | exact .inl (List.drop_eq_nil_iff.2 (by omega))) (k - i)).alloc _)⟩
      | 3, _ => exact ⟨_, _, _, rfl, by simp <;> omega, by omega, (Seg.alloc (by first | exact HS3.out.drop k | exact .inl (List.drop_eq_nil_iff.2 (by omega))) _)⟩
    have S5 : Hid (∀ X Y, Seg ((u3.alloc X).alloc Y) (some ⟨b, off + i, none⟩) (p.drop i)) := by
      intro X Y
      have hn := HN.out
      exact Seg.alloc (Seg.alloc (by first | exact HS3.out.drop i | exact .inl (List.drop_eq_nil_iff.2 (by omega))) X) Y
    go_wp2_with fail
    go_region_held3 (fun _ => True) (exact trivial) (first | (go_at_call_of 10 (4 : Nat); refine (C4.out _ _ ?_).mono ?_; exact P4.out.drew; rintro e w' ⟨rfl, rfl⟩) | (go_at_call 10; refine (of_single (p.take i) _ _ ?_).mono ?_; exact (P1.out _).drew; rintro e w' ⟨rfl, rfl⟩) | (go_at_call 11; refine (C5.out _ _ _ _ ?_ ?_).mono ?_; exact (S5.out _ _).drew; omega; rintro e w' ⟨rfl, rfl⟩) | (go_at_call 3; refine (runs_any _).mono ?_; rintro e u9 ⟨rfl, b9⟩))
    go_wp2
    go_ret
    exact ⟨rfl, HBX.out _ _ _ b9⟩
  · -- k is the room's end
    obtain rfl : n = k := by omega
    obtain rfl : n = cap := by omega
    have hci : ¬ n = i := by omega
    have P4 : Hid (Parts (u3.alloc (.cells #[.slice (some ⟨b, off, none⟩) i n, .slice none 0 0, .slice (some ⟨b, off + i, none⟩) (n - i) (n - i), .slice (some ⟨b, off, none⟩) 0 0] 22)) u3.heap.size 0 [p.take i, [], (p.drop i).take (n - i), p.drop n]) := by
      have hn := HN.out
      refine parts_cells (heap_alloc_new u3 _) fun j hj => ?_
      match j, hj with
      | 0, _ => exact ⟨_, _, _, rfl, by simp <;> omega, by omega, ((HS3.out.take i).alloc _)⟩
      | 1, _ => exact ⟨_, _, _, rfl, rfl, by omega, .inl rfl⟩
      | 2, _ => exact ⟨_, _, _, rfl, by simp <;> omega, by omega, ((Seg.takes (by first | exact HS3.out.drop i | exact .inl (List.drop_eq_nil_iff.2 (by omega))) (n - i)).alloc _)⟩
      | 3, _ => exact ⟨_, _, _, rfl, by simp <;> omega, by omega, (Seg.alloc (by first | exact HS3.out.drop n | exact .inl (List.drop_eq_nil_iff.2 (by omega))) _)⟩
    have S5 : Hid (∀ X Y, Seg ((u3.alloc X).alloc Y) (some ⟨b, off + i, none⟩) (p.drop i)) := by
      intro X Y
      have hn := HN.out
      exact Seg.alloc (Seg.alloc (by first | exact HS3.out.drop i | exact .inl (List.drop_eq_nil_iff.2 (by omega))) X) Y
    go_wp2_with fail
    go_region_held3 (fun _ => True) (exact trivial) (first | (go_at_call_of 10 (4 : Nat); refine (C4.out _ _ ?_).mono ?_; exact P4.out.drew; rintro e w' ⟨rfl, rfl⟩) | (go_at_call 10; refine (of_single (p.take i) _ _ ?_).mono ?_; exact (P1.out _).drew; rintro e w' ⟨rfl, rfl⟩) | (go_at_call 11; refine (C5.out _ _ _ _ ?_ ?_).mono ?_; exact (S5.out _ _).drew; omega; rintro e w' ⟨rfl, rfl⟩) | (go_at_call 3; refine (runs_any _).mono ?_; rintro e u9 ⟨rfl, b9⟩))
    go_wp2
    go_ret
    exact ⟨rfl, HBX.out _ _ _ b9⟩
  · -- both are the room's end
    obtain rfl : n = k := by omega
    obtain rfl : n = cap := by omega
    obtain rfl : n = i := by omega
    have P4 : Hid (Parts (u3.alloc (.cells #[.slice (some ⟨b, off, none⟩) n n, .slice none 0 0, .slice (some ⟨b, off, none⟩) 0 0, .slice (some ⟨b, off, none⟩) 0 0] 22)) u3.heap.size 0 [p.take n, [], (p.drop n).take (n - n), p.drop n]) := by
      have hn := HN.out
      refine parts_cells (heap_alloc_new u3 _) fun j hj => ?_
      match j, hj with
      | 0, _ => exact ⟨_, _, _, rfl, by simp <;> omega, by omega, ((HS3.out.take n).alloc _)⟩
      | 1, _ => exact ⟨_, _, _, rfl, rfl, by omega, .inl rfl⟩
      | 2, _ => exact ⟨_, _, _, rfl, by simp <;> omega, by omega, ((Seg.takes (by first | exact HS3.out.drop n | exact .inl (List.drop_eq_nil_iff.2 (by omega))) (n - n)).alloc _)⟩
      | 3, _ => exact ⟨_, _, _, rfl, by simp <;> omega, by omega, (Seg.alloc (by first | exact HS3.out.drop n | exact .inl (List.drop_eq_nil_iff.2 (by omega))) _)⟩
    have S5 : Hid (∀ X Y, Seg ((u3.alloc X).alloc Y) (some ⟨b, off, none⟩) (p.drop n)) := by
      intro X Y
      have hn := HN.out
      exact Seg.alloc (Seg.alloc (by first | exact HS3.out.drop n | exact .inl (List.drop_eq_nil_iff.2 (by omega))) X) Y
    go_wp2_with fail
    go_region_held3 (fun _ => True) (exact trivial) (first | (go_at_call_of 10 (4 : Nat); refine (C4.out _ _ ?_).mono ?_; exact P4.out.drew; rintro e w' ⟨rfl, rfl⟩) | (go_at_call 10; refine (of_single (p.take n) _ _ ?_).mono ?_; exact (P1.out _).drew; rintro e w' ⟨rfl, rfl⟩) | (go_at_call 11; refine (C5.out _ _ _ _ ?_ ?_).mono ?_; exact (S5.out _ _).drew; omega; rintro e w' ⟨rfl, rfl⟩) | (go_at_call 3; refine (runs_any _).mono ?_; rintro e u9 ⟨rfl, b9⟩))
    go_wp2
    go_ret
    exact ⟨rfl, HBX.out _ _ _ b9⟩
set_option maxHeartbeats 4000000 in
theorem parts_nil (at_ to_ : Int) (w : World) (hat : -9223372036854775808 ≤ at_ ∧ at_ ≤ 9223372036854775807) (hto : -9223372036854775808 ≤ to_ ∧ to_ ≤ 9223372036854775807) :
    Calls Try.prog 5 #[.slice none 0 0, .int .i64 at_, .int .i64 to_] w fun e w' => e = .returned (.bool true) ∧ Below w.heap.size w w' := by
  go_enter Try.func5, Try.ntmps5
  go_wp2_with fail
  refine (within_any _ _ _ _ hat (by omega) (by omega) (by omega)).mono ?_
  rintro e u1 ⟨⟨i', rfl, hi0, hi1⟩, rfl⟩
  obtain rfl : i' = 0 := by omega
  go_wp2_with fail
  refine (within_any _ _ _ _ hto (by omega) (by omega) (by omega)).mono ?_
  rintro e u2 ⟨⟨k', rfl, hk0, hk1⟩, rfl⟩
  obtain rfl : k' = 0 := by omega
  clear hi0 hi1 hk0 hk1
  go_wp2_with fail
  refine (of_one [] _ 0 0 _ _ (by simp) (.inl rfl) rfl (by omega)).mono ?_
  rintro e _ ⟨rfl, rfl⟩
  have HB3 : Hid (Below u2.heap.size u2 (u2.alloc (.cells #[.slice none 0 0] 22))) := (Below.refl _ _).alloc (Nat.le_refl _) _
  generalize u2.alloc (.cells #[.slice none 0 0] 22) = u3 at *
  have HBX : Hid (∀ X Y u9, Below ((u3.alloc X).alloc Y).drew.heap.size ((u3.alloc X).alloc Y).drew u9 → Below u2.heap.size u2 u9) := by
    intro X Y u9 h
    have hz := HB3.out.size
    exact (((HB3.out.alloc hz X).alloc (by simp; omega) Y).drew).trans (h.mono (by simp; omega))
  have P1 : Hid (∀ X, Parts ((u3.alloc X).alloc (.cells #[.slice none 0 0] 22)) (u3.heap.size + 1) 0 [[]]) := by
    intro X
    have h := parts_one (u := u3.alloc X) (cap := 0) (ao := none) (bs := []) (.inl rfl) (n := 0) rfl (by omega)
    simpa using h
  have C4 : Hid (∀ W g, Parts W g 0 [[], [], [], []] → Calls Try.prog 10 #[.slice (some ⟨g, 0, none⟩) 4 4] W fun e w' => e = .returned (.int .u32 (Crc.on 0 [] : Nat)) ∧ w' = W) := by
    intro W g h
    exact of_any _ g 0 4 4 W rfl (by omega) h
  have P4 : Hid (Parts (u3.alloc (.cells #[.slice none 0 0, .slice none 0 0, .slice none 0 0, .slice none 0 0] 22)) u3.heap.size 0 [[], [], [], []]) := by
    refine parts_cells (heap_alloc_new u3 _) fun j hj => ?_
    match j, hj with
    | 0, _ => exact ⟨_, _, _, rfl, rfl, by omega, .inl rfl⟩
    | 1, _ => exact ⟨_, _, _, rfl, rfl, by omega, .inl rfl⟩
    | 2, _ => exact ⟨_, _, _, rfl, rfl, by omega, .inl rfl⟩
    | 3, _ => exact ⟨_, _, _, rfl, rfl, by omega, .inl rfl⟩
  have hoi := Crc.on_lt 0 [] (by omega)
  go_wp2_with fail
  go_region_held3 (fun _ => True) (exact trivial) (first | (go_at_call_of 10 (4 : Nat); refine (C4.out _ _ ?_).mono ?_; exact P4.out.drew; rintro e w' ⟨rfl, rfl⟩) | (go_at_call 10; refine (of_single [] _ _ ?_).mono ?_; exact (P1.out _).drew; rintro e w' ⟨rfl, rfl⟩) | (go_at_call 11; refine (on_none _ _ _ _ hoi).mono ?_; rintro e w' ⟨rfl, rfl⟩) | (go_at_call 3; refine (runs_any _).mono ?_; rintro e u9 ⟨rfl, b9⟩))
  go_wp2
  go_ret
  exact ⟨rfl, HBX.out _ _ _ b9⟩
set_option maxHeartbeats 4000000 in
theorem parts_zero (ad : Addr) (at_ to_ : Int) (w : World) (hat : -9223372036854775808 ≤ at_ ∧ at_ ≤ 9223372036854775807) (hto : -9223372036854775808 ≤ to_ ∧ to_ ≤ 9223372036854775807) :
    Calls Try.prog 5 #[.slice (some ad) 0 0, .int .i64 at_, .int .i64 to_] w fun e w' => e = .returned (.bool true) ∧ Below w.heap.size w w' := by
  go_enter Try.func5, Try.ntmps5
  go_wp2_with fail
  refine (within_any _ _ _ _ hat (by omega) (by omega) (by omega)).mono ?_
  rintro e u1 ⟨⟨i', rfl, hi0, hi1⟩, rfl⟩
  obtain rfl : i' = 0 := by omega
  go_wp2_with fail
  refine (within_any _ _ _ _ hto (by omega) (by omega) (by omega)).mono ?_
  rintro e u2 ⟨⟨k', rfl, hk0, hk1⟩, rfl⟩
  obtain rfl : k' = 0 := by omega
  clear hi0 hi1 hk0 hk1
  go_wp2_with fail
  refine (of_one [] _ 0 0 _ _ (by simp) (.inl rfl) rfl (by omega)).mono ?_
  rintro e _ ⟨rfl, rfl⟩
  have HB3 : Hid (Below u2.heap.size u2 (u2.alloc (.cells #[.slice (some ad) 0 0] 22))) := (Below.refl _ _).alloc (Nat.le_refl _) _
  generalize u2.alloc (.cells #[.slice (some ad) 0 0] 22) = u3 at *
  have HBX : Hid (∀ X Y u9, Below ((u3.alloc X).alloc Y).drew.heap.size ((u3.alloc X).alloc Y).drew u9 → Below u2.heap.size u2 u9) := by
    intro X Y u9 h
    have hz := HB3.out.size
    exact (((HB3.out.alloc hz X).alloc (by simp; omega) Y).drew).trans (h.mono (by simp; omega))
  have P1 : Hid (∀ X, Parts ((u3.alloc X).alloc (.cells #[.slice (some ad) 0 0] 22)) (u3.heap.size + 1) 0 [[]]) := by
    intro X
    have h := parts_one (u := u3.alloc X) (cap := 0) (ao := (some ad)) (bs := []) (.inl rfl) (n := 0) rfl (by omega)
    simpa using h
  have C4 : Hid (∀ W g, Parts W g 0 [[], [], [], []] → Calls Try.prog 10 #[.slice (some ⟨g, 0, none⟩) 4 4] W fun e w' => e = .returned (.int .u32 (Crc.on 0 [] : Nat)) ∧ w' = W) := by
    intro W g h
    exact of_any _ g 0 4 4 W rfl (by omega) h
  have P4 : Hid (Parts (u3.alloc (.cells #[.slice (some ad) 0 0, .slice none 0 0, .slice (some ad) 0 0, .slice (some ad) 0 0] 22)) u3.heap.size 0 [[], [], [], []]) := by
    refine parts_cells (heap_alloc_new u3 _) fun j hj => ?_
    match j, hj with
    | 0, _ => exact ⟨_, _, _, rfl, rfl, by omega, .inl rfl⟩
    | 1, _ => exact ⟨_, _, _, rfl, rfl, by omega, .inl rfl⟩
    | 2, _ => exact ⟨_, _, _, rfl, rfl, by omega, .inl rfl⟩
    | 3, _ => exact ⟨_, _, _, rfl, rfl, by omega, .inl rfl⟩
  have hoi := Crc.on_lt 0 [] (by omega)
  go_wp2_with fail
  go_region_held3 (fun _ => True) (exact trivial) (first | (go_at_call_of 10 (4 : Nat); refine (C4.out _ _ ?_).mono ?_; exact P4.out.drew; rintro e w' ⟨rfl, rfl⟩) | (go_at_call 10; refine (of_single [] _ _ ?_).mono ?_; exact (P1.out _).drew; rintro e w' ⟨rfl, rfl⟩) | (go_at_call 11; refine (on_none _ _ _ _ hoi).mono ?_; rintro e w' ⟨rfl, rfl⟩) | (go_at_call 3; refine (runs_any _).mono ?_; rintro e u9 ⟨rfl, b9⟩))
  go_wp2
  go_ret
  exact ⟨rfl, HBX.out _ _ _ b9⟩
theorem sumParts_walk (a0 : Option Addr) (len0 cap0 : Nat) (z0 : List UInt8) (a1 a2 : Int) (w : World) (w0 : IsBytes w a0 len0 cap0 z0) (w1 : (Lit.int .i64 a1).wf = true) (w2 : (Lit.int .i64 a2).wf = true) :
    Calls Try.prog 5 #[.slice a0 len0 cap0, .int .i64 a1, .int .i64 a2] w fun e w' => e = .returned (.bool true) ∧ Below w.heap.size w w' := by
  cases a0 with
  | none =>
    obtain rfl := w0.nil rfl
    obtain rfl : len0 = 0 := by have := w0.fits; omega
    exact parts_nil a1 a2 w (int_in w1) (int_in w2)
  | some ad =>
    rcases w0.plain ad rfl with rfl | ⟨b, off, rfl⟩
    · obtain rfl : len0 = 0 := by have := w0.fits; omega
      exact parts_zero ad a1 a2 w (int_in w1) (int_in w2)
    · exact parts_core b off len0 cap0 z0 a1 a2 w (int_in w1) (int_in w2) w0.fits w0.reach w0.len w0.seg
end Go.Proofs.Ytehdhhmaijogbaa
