/- CONTRACTS OF sum.Open. -/
import Derived.Test.YtehdhhmaijogbaaSeal
import Derived.Deep.RegionHeld3
namespace Go.Proofs.Ytehdhhmaijogbaa
open Go.RowKit

theorem ret2 {a b c d : Value} (h : a = c) (k : b = d) : Ending.returned (.tuple #[a, b]) = .returned (.tuple #[c, d]) := by rw [h, k]
set_option maxHeartbeats 1000000 in
theorem open_short (ao : Option Addr) (n cap : Nat) (w : World) (h : n < 4) :
    Calls Try.prog 13 #[.slice ao n cap] w fun e w' => e = .returned (.tuple #[.slice none 0 0, .bool false]) ∧ Below w.heap.size w w' := by
  have hn : (n : Int) - 4 < 0 := by omega
  go_enter Try.func13, Try.ntmps13
  go_wp2
  go_quiet (fail)
  go_wp2
  go_ret2
  exact ⟨rfl, below_drewN (Below.refl _ _) _⟩
set_option maxHeartbeats 1000000 in
theorem open_good (bs : List UInt8) (b off n cap : Nat) (w : World) (hn : n + 4 = bs.length) (hl : n ≤ 140737488355328) (hcap : n + 4 ≤ cap) (_hcap2 : cap ≤ 9223372036854775807) (hs : Seg w (some ⟨b, off, none⟩) bs) (hg : Crc.good bs = true) :
    Calls Try.prog 13 #[.slice (some ⟨b, off, none⟩) (n + 4) cap] w fun e w' => ∃ g, e = .returned (.tuple #[.slice (some ⟨g, 0, none⟩) n n, .bool true]) ∧ w.heap.size ≤ g ∧ Row w' g ((bs.take n).map bv) ∧ Below w.heap.size w w' := by
  have HN : Hid (n + 4 = bs.length) := hn
  have HS : Hid (Seg w (some ⟨b, off, none⟩) bs) := hs
  have HG : Hid (Crc.good bs = true) := hg
  clear hn hs hg
  have a1 : (0 : Int) ≤ (n : Int) := by omega
  have a2 : (n : Int) ≤ (cap : Int) := by omega
  have a3 : (n : Int) ≤ (n : Int) + 4 := by omega
  have a4 : (n : Int) + 4 ≤ (cap : Int) := by omega
  have hlow : ((n : Int) < 0) = False := by simp
  have hgd : (((Crc.on 0 (bs.take n) : Nat) : Int) != ((Crc.le (bs.drop n) : Nat) : Int)) = false := by
    have h := HG.out
    unfold Crc.good at h
    rw [← HN.out, Nat.add_sub_cancel, beq_iff_eq] at h
    rw [h]
    simp
  have hmk := make_bytes n (by omega)
  obtain ⟨W1, hcp, hrow1, hbel1, hsz1⟩ := copy_bytes ((w.alloc (.cells #[.slice (some ⟨b, off, none⟩) n cap] 22)).alloc (.cells (zeros n) 5)).drew (w.heap.size + 1) (List.replicate n (.int .u8 0)) n n (some ⟨b, off, none⟩) (n + 4) cap bs
    (by have h := row_made (w.alloc (.cells #[.slice (some ⟨b, off, none⟩) n cap] 22)) n; exact Row.drew (by simpa using h)) (by simp) HN.out
    ((HS.out.below ((Below.refl _ _).alloc (Nat.le_refl _) _)).below ((Below.refl _ _).alloc (Nat.le_refl _) _)).drew
  have HB1 : Hid (Below w.heap.size w W1) := hbel1 w.heap.size w ((((Below.refl _ _).alloc (Nat.le_refl _) _).alloc (by simp) _).drew) (by omega)
  have HR1 : Hid (Row W1 (w.heap.size + 1) ((bs.take n).map bv)) := by
    have h := hrow1
    have e := splice_zero n 0 (.int .u8 0) ((bs.take n).map bv) (by have := HN.out; simp; omega)
    simp only [Nat.add_zero, List.replicate_zero, List.append_nil] at e
    rw [e] at h
    exact h
  clear hrow1 hbel1
  go_enter Try.func13, Try.ntmps13
  go_wp2
  go_region_held3 (fun _ => True) (exact trivial) (first | (go_at_call 10; refine (of_single (bs.take n) _ _ ?_).mono ?_; exact (parts_one (HS.out.take n) (by have := HN.out; simp; omega) (by omega)).drew; rintro e w' ⟨rfl, rfl⟩) | (go_at_call 21; refine (tail_any (bs.drop n) _ _ _ _ ?_ ?_).mono ?_; (have := HN.out; simp; omega); exact (HS.out.drop n).below (((Below.refl _ _).alloc (Nat.le_refl _) _).drew); rintro e w' ⟨rfl, rfl⟩))
  go_wp2
  go_ret2
  exact ⟨_, rfl, by omega, HR1.out, HB1.out⟩
set_option maxHeartbeats 1000000 in
theorem open_bad (bs : List UInt8) (b off n cap : Nat) (w : World) (hn : n + 4 = bs.length) (hl : n ≤ 140737488355328) (hcap : n + 4 ≤ cap) (_hcap2 : cap ≤ 9223372036854775807) (hs : Seg w (some ⟨b, off, none⟩) bs) (hg : Crc.good bs = false) :
    Calls Try.prog 13 #[.slice (some ⟨b, off, none⟩) (n + 4) cap] w fun e w' => e = .returned (.tuple #[.slice none 0 0, .bool false]) ∧ Below w.heap.size w w' := by
  have HN : Hid (n + 4 = bs.length) := hn
  have HS : Hid (Seg w (some ⟨b, off, none⟩) bs) := hs
  have HG : Hid (Crc.good bs = false) := hg
  clear hn hs hg
  have a1 : (0 : Int) ≤ (n : Int) := by omega
  have a2 : (n : Int) ≤ (cap : Int) := by omega
  have a3 : (n : Int) ≤ (n : Int) + 4 := by omega
  have a4 : (n : Int) + 4 ≤ (cap : Int) := by omega
  have hlow : ((n : Int) < 0) = False := by simp
  have hgd : (((Crc.on 0 (bs.take n) : Nat) : Int) != ((Crc.le (bs.drop n) : Nat) : Int)) = true := by
    have h := HG.out
    unfold Crc.good at h
    rw [← HN.out, Nat.add_sub_cancel, beq_eq_false_iff_ne] at h
    rw [bne_iff_ne]
    omega
  go_enter Try.func13, Try.ntmps13
  go_wp2
  go_region_held3 (fun _ => True) (exact trivial) (first | (go_at_call 10; refine (of_single (bs.take n) _ _ ?_).mono ?_; exact (parts_one (HS.out.take n) (by have := HN.out; simp; omega) (by omega)).drew; rintro e w' ⟨rfl, rfl⟩) | (go_at_call 21; refine (tail_any (bs.drop n) _ _ _ _ ?_ ?_).mono ?_; (have := HN.out; simp; omega); exact (HS.out.drop n).below (((Below.refl _ _).alloc (Nat.le_refl _) _).drew); rintro e w' ⟨rfl, rfl⟩))
  go_wp2
  go_ret2
  exact ⟨rfl, ((Below.refl _ _).alloc (Nat.le_refl _) _).drew⟩
/-- WHAT OPEN ANSWERS, OF ANY BYTES. -/
theorem open_any (bs : List UInt8) (ao : Option Addr) (n cap : Nat) (w : World) (hn : n = bs.length) (hl : n ≤ 140737488355332) (hcap : n ≤ cap) (hcap2 : cap ≤ 9223372036854775807) (hs : Seg w ao bs) :
    Calls Try.prog 13 #[.slice ao n cap] w fun e w' => Below w.heap.size w w' ∧
      (((decide (4 ≤ n) && Crc.good bs) = true ∧ ∃ g, e = .returned (.tuple #[.slice (some ⟨g, 0, none⟩) (n - 4) (n - 4), .bool true]) ∧ w.heap.size ≤ g ∧ Row w' g ((bs.take (n - 4)).map bv)) ∨
       ((decide (4 ≤ n) && Crc.good bs) = false ∧ e = .returned (.tuple #[.slice none 0 0, .bool false]))) := by
  by_cases h4 : 4 ≤ n
  · obtain ⟨m, rfl⟩ : ∃ m, n = m + 4 := ⟨n - 4, by omega⟩
    rcases hs with rfl | ⟨b, off, rfl, hc⟩
    · simp at hn
    · have hs : Seg w (some ⟨b, off, none⟩) bs := .inr ⟨b, off, rfl, hc⟩
      cases hg : Crc.good bs
      · refine (open_bad bs b off m cap w hn (by omega) hcap hcap2 hs hg).mono fun e w' ⟨he, hb⟩ => ⟨hb, .inr ⟨by simp, he⟩⟩
      · refine (open_good bs b off m cap w hn (by omega) hcap hcap2 hs hg).mono fun e w' ⟨g, he, hg, hr, hb⟩ => ⟨hb, .inl ⟨by simp, g, he, hg, hr⟩⟩
  · refine (open_short ao n cap w (by omega)).mono fun e w' ⟨he, hb⟩ => ⟨hb, .inr ⟨by simp [h4], he⟩⟩
/-- is it sealed? -/
def opens (bs : List UInt8) : Bool := decide (4 ≤ bs.length) && Crc.good bs
/-- what was sealed -/
def inner (bs : List UInt8) : List UInt8 := if opens bs = true then bs.take (bs.length - 4) else []
theorem open_seg (bs : List UInt8) (ao : Option Addr) (n cap : Nat) (w : World) (hn : n = bs.length) (hl : n ≤ 140737488355332) (hcap : n ≤ cap) (hcap2 : cap ≤ 9223372036854775807) (hs : Seg w ao bs) :
    Calls Try.prog 13 #[.slice ao n cap] w fun e w' => ∃ ax nx cx, e = .returned (.tuple #[.slice ax nx cx, .bool (opens bs)]) ∧ nx = (inner bs).length ∧ nx ≤ n ∧ Seg w' ax (inner bs) ∧ Below w.heap.size w w' := by
  refine (open_any bs ao n cap w hn hl hcap hcap2 hs).mono fun e w' ⟨hb, h⟩ => ?_
  subst hn
  rcases h with ⟨hg, g, he, hge, hr⟩ | ⟨hg, he⟩
  · have ho : opens bs = true := hg
    refine ⟨_, _, _, by rw [ho]; exact he, ?_, by omega, ?_, hb⟩
    · simp only [inner, ho, if_true, List.length_take]
      omega
    · simp only [inner, ho, if_true]
      exact hr.seg'
  · have ho : opens bs = false := hg
    refine ⟨_, _, _, by rw [ho]; exact he, ?_, by omega, ?_, hb⟩
    · simp [inner, ho]
    · simp only [inner, ho]
      exact .inl rfl
end Go.Proofs.Ytehdhhmaijogbaa
