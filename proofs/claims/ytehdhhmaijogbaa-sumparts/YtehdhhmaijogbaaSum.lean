/- CONTRACTS OF PACKAGE sum, as far as it only reckons and reads: divide, On, Of, tail. -/
import Derived.Test.YtehdhhmaijogbaaSeg
import Derived.Test.YtehdhhmaijogbaaCrc
namespace Go.Proofs.Ytehdhhmaijogbaa
open Go.RowKit

theorem and_one (x : Nat) (h : x < 4294967296) : bits .and .u32 (x : Int) 1 = ((x % 2 : Nat) : Int) := by
  have := u32_and_nat x 1 h (by omega)
  rw [Nat.and_one_is_mod] at this
  exact this
theorem half_odd (x : Nat) (h : x < 4294967296) (ho : ((x : Int) % 2 == 1) = true) : bits .xor .u32 ((x : Int) / 2) 3945912366 = ((Crc.half x : Nat) : Int) := by
  have e : (x : Int) % 2 = 1 := by simpa using ho
  unfold Crc.half
  rw [if_pos (by omega), show (x : Int) / 2 = ((x / 2 : Nat) : Int) from by omega]
  exact u32_xor_nat (x / 2) 3945912366 (by omega) (by omega)
theorem half_even (x : Nat) (he : ((x : Int) % 2 == 1) = false) : (x : Int) / 2 = ((Crc.half x : Nat) : Int) := by
  have e : ¬ (x : Int) % 2 = 1 := by simpa using he
  unfold Crc.half
  rw [if_neg (by omega)]
  omega
theorem not_u32 (c : Nat) (h : c < 4294967296) : bits .xor .u32 IntKind.u32.max (c : Int) = ((c ^^^ 4294967295 : Nat) : Int) := by
  rw [Nat.xor_comm, show IntKind.u32.max = 4294967295 from rfl]
  exact u32_xor_nat 4294967295 c (by omega) h
theorem xor_byte (s : Nat) (b : UInt8) (h : s < 4294967296) : bits .xor .u32 (s : Int) (b.toNat : Int) = ((s ^^^ b.toNat : Nat) : Int) :=
  u32_xor_nat s b.toNat h (by have := b.toNat_lt; omega)
theorem eat_snoc (s : Nat) (bs : List UInt8) (k : Nat) (hk : k < bs.length) : Crc.eat s (bs.take (k + 1)) = Crc.halves 8 (Crc.eat s (bs.take k) ^^^ bs[k].toNat) := by
  rw [List.take_succ_eq_append_getElem hk, Crc.eat_append]
  rfl

set_option maxHeartbeats 400000 in
theorem divide_any (s : Nat) (w : World) (h : s < 4294967296) :
    Calls Try.prog 20 #[.int .u32 s] w fun e w' => e = .returned (.int .u32 (Crc.halves 8 s : Nat)) ∧ w' = w := by
  go_enter Try.func20, Try.ntmps20
  go_wp2
  go_loop [0, 4] (fun t i => ∃ k : Nat, k ≤ 8 ∧ i = .int .i64 k ∧ t = .int .u32 (Crc.halves k s : Nat)) (fun _ i => 8 - (intOf i).toNat)
  case atStart => exact ⟨0, Nat.zero_le _, rfl, rfl⟩
  case round =>
    obtain ⟨k, hk, rfl, rfl⟩ := hrel
    have hx := Crc.halves_lt k s h
    have hs := Crc.halves_succ k s
    have H8 : Hid (k = 8 → Crc.halves k s = Crc.halves 8 s) := fun e => by rw [e]
    generalize Crc.halves k s = x at *
    have HS : Hid (Crc.halves (k + 1) s = Crc.half x) := hs
    clear hs
    have h1 := and_one x hx
    go_wp2
    · go_round
      case rel => exact ⟨k + 1, by omega, by go_num, by rw [HS.out]; exact congrArg (Value.int .u32) (half_odd x hx ‹_›)⟩
      case measure => simp [intOf]; omega
    · go_round
      case rel => exact ⟨k + 1, by omega, by go_num, by rw [HS.out]; exact congrArg (Value.int .u32) (half_even x ‹_›)⟩
      case measure => simp [intOf]; omega
    · go_ret
      exact ⟨ret_u32 (by rw [H8.out (by omega)]), rfl⟩

set_option maxHeartbeats 400000 in
theorem on_core (c : Nat) (bs : List UInt8) (b off n cap : Nat) (w : World) (hc : c < 4294967296) (hn : n = bs.length) (hl : n ≤ 9223372036854775807)
    (hcell : ∀ k (hk : k < bs.length), w.cell? ⟨b, off + k, none⟩ = some (.int .u8 (bs[k].toNat : Int))) :
    Calls Try.prog 11 #[.int .u32 c, .slice (some ⟨b, off, none⟩) n cap] w fun e w' => e = .returned (.int .u32 (Crc.on c bs : Nat)) ∧ w' = w := by
  have h1 := not_u32 c hc
  have HN : Hid (n = bs.length) := hn
  clear hn
  have hcF := Crc.xor_lt c 4294967295 hc (by omega)
  go_enter Try.func11, Try.ntmps11
  go_wp2
  go_loop [5, 12] (fun t i => ∃ k : Nat, k ≤ n ∧ i = .int .i64 k ∧ t = .int .u32 (Crc.eat (c ^^^ 4294967295) (bs.take k) : Nat)) (fun _ i => n - (intOf i).toNat)
  case atStart => exact ⟨0, Nat.zero_le _, rfl, rfl⟩
  case round =>
    obtain ⟨k, hk, rfl, rfl⟩ := hrel
    have hx := Crc.eat_lt (bs.take k) _ hcF
    by_cases hlt : k < n
    · have hkb : k < bs.length := by have := HN.out; omega
      have HS : Hid (Crc.eat (c ^^^ 4294967295) (bs.take (k + 1)) = Crc.halves 8 (Crc.eat (c ^^^ 4294967295) (bs.take k) ^^^ bs[k].toNat)) := eat_snoc _ bs k hkb
      have hcl := hcell k hkb
      generalize Crc.eat (c ^^^ 4294967295) (bs.take k) = x at *
      generalize bs[k] = y at *
      have hxy := xor_byte x y hx
      have hyl := y.toNat_lt
      have hlt2 := Crc.xor_lt x y.toNat hx (by omega)
      clear hcell
      go_wp2_with (go_at_call 20; refine (divide_any _ _ hlt2).mono ?_; rintro e w' ⟨rfl, rfl⟩)
      go_round
      case rel => exact ⟨k + 1, by omega, by go_num, by rw [HS.out]⟩
      case measure => simp [intOf]; omega
    · clear hcell
      have h2 := not_u32 _ hx
      have HE : Hid (Crc.eat (c ^^^ 4294967295) (bs.take k) ^^^ 4294967295 = Crc.on c bs) := by
        unfold Crc.on; rw [List.take_of_length_le (by have := HN.out; omega)]; rfl
      generalize Crc.eat (c ^^^ 4294967295) (bs.take k) = x at *
      go_wp2
      go_ret
      exact ⟨ret_u32 (by rw [HE.out]), rfl⟩
set_option maxHeartbeats 400000 in
theorem on_none (c : Nat) (ao : Option Addr) (cap : Nat) (w : World) (hc : c < 4294967296) :
    Calls Try.prog 11 #[.int .u32 c, .slice ao 0 cap] w fun e w' => e = .returned (.int .u32 (c : Nat)) ∧ w' = w := by
  have h1 := not_u32 c hc
  have hcF := Crc.xor_lt c 4294967295 hc (by omega)
  have h2 := not_u32 _ hcF
  go_enter Try.func11, Try.ntmps11
  go_wp2
  go_loop [5, 12] (fun t i => i = .int .i64 0 ∧ t = .int .u32 (c ^^^ 4294967295 : Nat)) (fun _ i => 0)
  case atStart => exact ⟨rfl, rfl⟩
  case round =>
    obtain ⟨rfl, rfl⟩ := hrel
    go_wp2
    go_ret
    exact ⟨ret_u32 (by rw [Crc.xor_xor]), rfl⟩
theorem on_any (c : Nat) (bs : List UInt8) (ao : Option Addr) (n cap : Nat) (w : World) (hc : c < 4294967296) (hn : n = bs.length) (hl : n ≤ 9223372036854775807) (hs : Seg w ao bs) :
    Calls Try.prog 11 #[.int .u32 c, .slice ao n cap] w fun e w' => e = .returned (.int .u32 (Crc.on c bs : Nat)) ∧ w' = w := by
  rcases hs with rfl | ⟨b, off, rfl, hcell⟩
  · subst hn
    rw [Crc.on_nil]
    exact on_none c ao cap w hc
  · exact on_core c bs b off n cap w hc hn hl hcell

/-- parts that lie one behind the other in memory, from an address on -/
def Parts (w : World) (g off : Nat) (ps : List (List UInt8)) : Prop :=
  ∀ k (hk : k < ps.length), ∃ ao n cp, w.cell? ⟨g, off + k, none⟩ = some (.slice ao n cp) ∧ n = ps[k].length ∧ n ≤ 9223372036854775807 ∧ Seg w ao ps[k]
theorem on_flat (c : Nat) (ps : List (List UInt8)) (k : Nat) (hk : k < ps.length) : Crc.on c (ps.take (k + 1)).flatten = Crc.on (Crc.on c (ps.take k).flatten) ps[k] := by
  rw [List.take_succ_eq_append_getElem hk, List.flatten_append, Crc.on_append]
  simp
set_option maxHeartbeats 400000 in
theorem of_any (ps : List (List UInt8)) (g off m cap : Nat) (w : World) (hm : m = ps.length) (hl : m ≤ 9223372036854775807) (hp : Parts w g off ps) :
    Calls Try.prog 10 #[.slice (some ⟨g, off, none⟩) m cap] w fun e w' => e = .returned (.int .u32 (Crc.on 0 ps.flatten : Nat)) ∧ w' = w := by
  have HM : Hid (m = ps.length) := hm
  have HP : Hid (Parts w g off ps) := hp
  clear hm hp
  go_enter Try.func10, Try.ntmps10
  go_wp2
  go_loop [3, 8] (fun t i => ∃ k : Nat, k ≤ m ∧ i = .int .i64 k ∧ t = .int .u32 (Crc.on 0 (ps.take k).flatten : Nat)) (fun _ i => m - (intOf i).toNat)
  case atStart => exact ⟨0, Nat.zero_le _, rfl, by rw [List.take_zero, List.flatten_nil, Crc.on_nil]; rfl⟩
  case round =>
    obtain ⟨k, hk, rfl, rfl⟩ := hrel
    have hx := Crc.on_lt 0 (ps.take k).flatten (by omega)
    by_cases hlt : k < m
    · have hkb : k < ps.length := by have := HM.out; omega
      have HS : Hid (Crc.on 0 (ps.take (k + 1)).flatten = Crc.on (Crc.on 0 (ps.take k).flatten) ps[k]) := on_flat 0 ps k hkb
      obtain ⟨ao, n, cp, hcl, hn, hln, hseg⟩ := HP.out k hkb
      have HN : Hid (n = ps[k].length) := hn
      have HG : Hid (Seg w ao ps[k]) := hseg
      clear hn hseg
      generalize Crc.on 0 (ps.take k).flatten = x at *
      generalize ps[k] = y at *
      go_wp2_with (go_at_call 11; refine (on_any _ y _ _ _ _ hx HN.out hln HG.out).mono ?_; rintro e w' ⟨rfl, rfl⟩)
      go_round
      case rel => exact ⟨k + 1, by omega, by go_num, by rw [HS.out]⟩
      case measure => simp [intOf]; omega
    · have HE : Hid (Crc.on 0 (ps.take k).flatten = Crc.on 0 ps.flatten) := by
        show _ = _
        rw [List.take_of_length_le (by have := HM.out; omega)]
      generalize Crc.on 0 (ps.take k).flatten = x at *
      go_wp2
      go_ret
      exact ⟨ret_u32 (by rw [HE.out]), rfl⟩
set_option maxHeartbeats 400000 in
theorem of_none (ao : Option Addr) (cap : Nat) (w : World) :
    Calls Try.prog 10 #[.slice ao 0 cap] w fun e w' => e = .returned (.int .u32 0) ∧ w' = w := by
  go_enter Try.func10, Try.ntmps10
  go_wp2
  refine wp_loop_rounds 1 ?_
  rw [rounds_succ]
  go_wp2
  go_ret
  exact ⟨rfl, rfl⟩

theorem le_snoc (bs : List UInt8) (k : Nat) (hk : k < bs.length) : Crc.le (bs.take (k + 1)) = Crc.le (bs.take k) + 2 ^ (8 * k) * bs[k].toNat := by
  rw [List.take_succ_eq_append_getElem hk, Crc.le_append]
  simp [Crc.le, Nat.min_eq_left (Nat.le_of_lt hk)]
theorem or_shift (x y k : Nat) (hk : k < 4) (hx : x < 2 ^ (8 * k)) (hy : y < 256) : bits .or .u32 (x : Int) ((y : Int) * 2 ^ (8 * k) % 4294967296) = ((x + 2 ^ (8 * k) * y : Nat) : Int) := by
  have hp : 2 ^ (8 * k) ≤ 16777216 := by
    have : 2 ^ (8 * k) ≤ 2 ^ 24 := Nat.pow_le_pow_right (by omega) (by omega)
    simpa using this
  have hm : y * 2 ^ (8 * k) ≤ 255 * 2 ^ (8 * k) := Nat.mul_le_mul_right _ (by omega)
  have e1 : ((y : Int) * 2 ^ (8 * k) % 4294967296) = ((2 ^ (8 * k) * y : Nat) : Int) := by
    have : ((y : Int) * 2 ^ (8 * k)) = ((y * 2 ^ (8 * k) : Nat) : Int) := by simp
    rw [this, Nat.mul_comm]
    rw [Nat.mul_comm] at hm
    omega
  rw [e1, u32_or_nat _ _ (by omega) (by rw [Nat.mul_comm]; omega), Nat.add_comm, Nat.two_pow_add_eq_or_of_lt hx, Nat.or_comm]
set_option maxHeartbeats 400000 in
theorem tail_core (bs : List UInt8) (b off cap : Nat) (w : World) (hn : bs.length = 4)
    (hcell : ∀ k (hk : k < bs.length), w.cell? ⟨b, off + k, none⟩ = some (.int .u8 (bs[k].toNat : Int))) :
    Calls Try.prog 21 #[.slice (some ⟨b, off, none⟩) 4 cap] w fun e w' => e = .returned (.int .u32 (Crc.le bs : Nat)) ∧ w' = w := by
  have HN : Hid (bs.length = 4) := hn
  clear hn
  go_enter Try.func21, Try.ntmps21
  go_wp2
  go_loop [3, 8] (fun t i => ∃ k : Nat, k ≤ 4 ∧ i = .int .i64 k ∧ t = .int .u32 (Crc.le (bs.take k) : Nat)) (fun _ i => 4 - (intOf i).toNat)
  case atStart => exact ⟨0, Nat.zero_le _, rfl, rfl⟩
  case round =>
    obtain ⟨k, hk, rfl, rfl⟩ := hrel
    have hx := Crc.le_lt (bs.take k)
    by_cases hlt : k < 4
    · have hkb : k < bs.length := by have := HN.out; omega
      have HS : Hid (Crc.le (bs.take (k + 1)) = Crc.le (bs.take k) + 2 ^ (8 * k) * bs[k].toNat) := le_snoc bs k hkb
      have hcl := hcell k hkb
      generalize Crc.le (bs.take k) = x at *
      generalize bs[k] = y at *
      have hyl := y.toNat_lt
      clear hcell
      have hx' : x < 2 ^ (8 * k) := Nat.lt_of_lt_of_le hx (Nat.pow_le_pow_right (by omega) (Nat.mul_le_mul_left 8 (List.length_take_le k bs)))
      clear hx
      go_wp2
      go_round
      case rel => exact ⟨k + 1, by omega, by go_num, by rw [HS.out]; exact congrArg (Value.int .u32) (or_shift x y.toNat k hlt hx' hyl)⟩
      case measure => simp [intOf]; omega
    · have HE : Hid (Crc.le (bs.take k) = Crc.le bs) := by
        show _ = _
        rw [List.take_of_length_le (by have := HN.out; omega)]
      clear hcell hx
      generalize Crc.le (bs.take k) = x at *
      go_wp2
      go_ret
      exact ⟨ret_u32 (by rw [HE.out]), rfl⟩
theorem parts_one {u : World} {ao : Option Addr} {bs : List UInt8} {n cap : Nat} (hs : Seg u ao bs) (hn : n = bs.length) (hl : n ≤ 9223372036854775807) :
    Parts (u.alloc (.cells #[.slice ao n cap] 22)) u.heap.size 0 [bs] := by
  intro k hk
  obtain rfl : k = 0 := by simp at hk; omega
  refine ⟨ao, n, cap, ?_, hn, hl, hs.below ((Below.refl _ _).alloc (Nat.le_refl _) _)⟩
  rw [cell_of_row _ _ _ _ _ _ (heap_alloc_new u _)]
  rfl
theorem of_one (bs : List UInt8) (ao : Option Addr) (n cap g : Nat) (u : World) (hg : g = u.heap.size) (hs : Seg u ao bs) (hn : n = bs.length) (hl : n ≤ 9223372036854775807) :
    Calls Try.prog 10 #[.slice (some ⟨g, 0, none⟩) 1 1] (u.alloc (.cells #[.slice ao n cap] 22)) fun e w' => e = .returned (.int .u32 (Crc.on 0 bs : Nat)) ∧ w' = u.alloc (.cells #[.slice ao n cap] 22) := by
  subst hg
  have h := of_any [bs] u.heap.size 0 1 1 _ rfl (by omega) (parts_one (cap := cap) hs hn hl)
  rwa [List.flatten_singleton] at h
theorem Parts.drew {w : World} {g off : Nat} {ps : List (List UInt8)} (h : Parts w g off ps) : Parts w.drew g off ps := h
theorem of_single (bs : List UInt8) (g : Nat) (w : World) (h : Parts w g 0 [bs]) :
    Calls Try.prog 10 #[.slice (some ⟨g, 0, none⟩) 1 1] w fun e w' => e = .returned (.int .u32 (Crc.on 0 bs : Nat)) ∧ w' = w := by
  have h := of_any [bs] g 0 1 1 _ rfl (by omega) h
  rwa [List.flatten_singleton] at h
theorem tail_any (bs : List UInt8) (b off cap : Nat) (w : World) (hn : bs.length = 4) (hs : Seg w (some ⟨b, off, none⟩) bs) :
    Calls Try.prog 21 #[.slice (some ⟨b, off, none⟩) 4 cap] w fun e w' => e = .returned (.int .u32 (Crc.le bs : Nat)) ∧ w' = w := by
  rcases hs with rfl | ⟨b', off', e, hc⟩
  · simp at hn
  · cases e
    exact tail_core bs b off cap w hn hc
theorem parts_cells {w : World} {g : Nat} {vs : Array Value} {ps : List (List UInt8)} (hg : w.heap[g]? = some (.cells vs 22))
    (h : ∀ k (hk : k < ps.length), ∃ ao n cp, vs[k]? = some (.slice ao n cp) ∧ n = ps[k].length ∧ n ≤ 9223372036854775807 ∧ Seg w ao ps[k]) : Parts w g 0 ps := by
  intro k hk
  obtain ⟨ao, n, cp, h1, h2⟩ := h k hk
  exact ⟨ao, n, cp, by rw [Nat.zero_add, cell_of_row _ _ _ _ _ _ hg]; exact h1, h2⟩
theorem Seg.alloc {w : World} {ao : Option Addr} {bs : List UInt8} (h : Seg w ao bs) (o : Obj) : Seg (w.alloc o) ao bs := h.below ((Below.refl _ _).alloc (Nat.le_refl _) _)
theorem of_two (p q : List UInt8) (a b : Option Addr) (n m x y g : Nat) (u : World) (hg : g = u.heap.size) (h1 : Seg u a p) (h2 : Seg u b q) (e1 : n = p.length) (e2 : m = q.length) (b1 : n ≤ 9223372036854775807) (b2 : m ≤ 9223372036854775807) :
    Calls Try.prog 10 #[.slice (some ⟨g, 0, none⟩) 2 2] (u.alloc (.cells #[.slice a n x, .slice b m y] 22)) fun e w' => e = .returned (.int .u32 (Crc.on (Crc.on 0 p) q : Nat)) ∧ w' = u.alloc (.cells #[.slice a n x, .slice b m y] 22) := by
  subst hg
  have hp : Parts (u.alloc (.cells #[.slice a n x, .slice b m y] 22)) u.heap.size 0 [p, q] := by
    refine parts_cells (heap_alloc_new u _) fun k hk => ?_
    match k, hk with
    | 0, _ => exact ⟨a, n, x, rfl, e1, b1, h1.alloc _⟩
    | 1, _ => exact ⟨b, m, y, rfl, e2, b2, h2.alloc _⟩
  have h := of_any [p, q] u.heap.size 0 2 2 _ rfl (by omega) hp
  rwa [show [p, q].flatten = p ++ q from by simp, Crc.on_append] at h
end Go.Proofs.Ytehdhhmaijogbaa
