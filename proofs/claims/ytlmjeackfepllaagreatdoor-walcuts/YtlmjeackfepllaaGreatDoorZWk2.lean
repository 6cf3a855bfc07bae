import Derived.Laws.AppendOwnNone
import Derived.Lib.QuietBelow
import Derived.Deep.RegionWith
import Derived.Test.YtlmjeackfepllaaGreatDoorZWk1
namespace Go.Proofs.YtlmjeackfepllaaGreatDoor.Crc
def half (s : Nat) : Nat := if s % 2 = 1 then (s / 2) ^^^ 3945912366 else s / 2
def halves : Nat → Nat → Nat
 | 0,s => s
 | n + 1,s => halves n (half s)
def eat (s : Nat) : List UInt8 → Nat
 | [] => s
 | b :: l => eat (halves 8 (s ^^^ b.toNat)) l
def on (c : Nat) (l : List UInt8) : Nat := eat (c ^^^ 4294967295) l ^^^ 4294967295
def le : List UInt8 → Nat
 | [] => 0
 | b :: l => b.toNat + 256 * le l
theorem xor_lt (a b : Nat) (ha : a < 4294967296) (hb : b < 4294967296) : a ^^^ b < 4294967296 :=
 Nat.xor_lt_two_pow (n := 32) ha hb
theorem half_lt (s : Nat) (h : s < 4294967296) : half s < 4294967296 := by
 unfold half
 split
 · exact xor_lt _ _ (by omega) (by omega)
 · omega
theorem halves_lt : ∀ (n s : Nat),s < 4294967296 → halves n s < 4294967296
 | 0,_,h => h
 | n + 1,s,h => halves_lt n (half s) (half_lt s h)
theorem halves_succ (n s : Nat) : halves (n + 1) s = half (halves n s) := by
 induction n generalizing s with
 | zero => rfl
 | succ n ih => exact ih (half s)
theorem halves_add (m n s : Nat) : halves (m + n) s = halves n (halves m s) := by
 induction m generalizing s with
 | zero => simp [halves]
 | succ m ih => rw [show m + 1 + n = (m + n) + 1 from by omega]; exact ih (half s)
theorem eat_lt : ∀ (l : List UInt8) (s : Nat),s < 4294967296 → eat s l < 4294967296
 | [],_,h => h
 | b :: l,s,h => eat_lt l _ (halves_lt 8 _ (xor_lt _ _ h (by have := b.toNat_lt; omega)))
theorem on_lt (c : Nat) (l : List UInt8) (h : c < 4294967296) : on c l < 4294967296 :=
 xor_lt _ _ (eat_lt l _ (xor_lt _ _ h (by omega))) (by omega)
theorem eat_append (s : Nat) (a b : List UInt8) : eat s (a ++ b) = eat (eat s a) b := by
 induction a generalizing s with
 | nil => rfl
 | cons x a ih => exact ih _
theorem xor_xor (a b : Nat) : a ^^^ b ^^^ b = a := by rw [Nat.xor_assoc,Nat.xor_self,Nat.xor_zero]
theorem on_nil (c : Nat) : on c [] = c := xor_xor c _
theorem on_append (c : Nat) (a b : List UInt8) : on c (a ++ b) = on (on c a) b := by
 unfold on
 rw [eat_append,xor_xor]
theorem half_xor (a b : Nat) : half (a ^^^ b) = half a ^^^ half b := by
 unfold half
 have h1 : ((a ^^^ b) % 2 = 1) ↔ ¬ ((a % 2 = 1) ↔ (b % 2 = 1)) := Nat.xor_mod_two_eq_one
 have hm : (a ^^^ b) % 2 = (a + b) % 2 := by omega
 have hd : (a ^^^ b) / 2 = a / 2 ^^^ b / 2 := Nat.xor_div_two ..
 rw [hd,hm]
 by_cases ha : a % 2 = 1 <;> by_cases hb : b % 2 = 1
 ·
  have h : ¬ (a + b) % 2 = 1 := by omega
  simp only [ha,hb,h,if_true,if_false]
  rw [show (a / 2 ^^^ 3945912366) ^^^ (b / 2 ^^^ 3945912366) = (a / 2 ^^^ b / 2) ^^^ (3945912366 ^^^ 3945912366) from by ac_rfl,Nat.xor_self,Nat.xor_zero]
 ·
  have h : (a + b) % 2 = 1 := by omega
  simp only [ha,hb,h,if_true,if_false]
  ac_rfl
 ·
  have h : (a + b) % 2 = 1 := by omega
  simp only [ha,hb,h,if_true,if_false]
  ac_rfl
 ·
  have h : ¬ (a + b) % 2 = 1 := by omega
  simp only [ha,hb,h,if_false]
theorem halves_xor (n a b : Nat) : halves n (a ^^^ b) = halves n a ^^^ halves n b := by
 induction n generalizing a b with
 | zero => rfl
 | succ n ih => show halves n (half (a ^^^ b)) = _; rw [half_xor]; exact ih _ _
theorem half_double (y : Nat) : half (2 * y) = y := by
 unfold half
 rw [if_neg (by omega)]
 omega
theorem halves_shift (j y : Nat) : halves j (2 ^ j * y) = y := by
 induction j generalizing y with
 | zero => simp [halves]
 | succ j ih =>
  show halves j (half (2 ^ (j + 1) * y)) = y
  rw [show 2 ^ (j + 1) * y = 2 * (2 ^ j * y) from by rw [Nat.pow_succ]; ac_rfl,half_double]
  exact ih y
theorem half_ne (s : Nat) (h : s < 4294967296) (h0 : s ≠ 0) : half s ≠ 0 := by
 unfold half
 split
 ·
  intro e
  have : s / 2 = 3945912366 := by
   have := congrArg (· ^^^ 3945912366) e
   simp only [xor_xor,Nat.zero_xor] at this
   exact this
  omega
 · omega
theorem halves_ne : ∀ (n s : Nat),s < 4294967296 → s ≠ 0 → halves n s ≠ 0
 | 0,_,_,h0 => h0
 | n + 1,s,h,h0 => halves_ne n (half s) (half_lt s h) (half_ne s h h0)
theorem burst (m j y : Nat) (hy : y < 4294967296) (h0 : y ≠ 0) : halves m (2 ^ j * y) ≠ 0 := by
 by_cases h : j ≤ m
 ·
  obtain ⟨k,rfl⟩ : ∃ k,m = j + k := ⟨m - j,by omega⟩
  rw [halves_add,halves_shift]
  exact halves_ne k y hy h0
 ·
  obtain ⟨k,rfl⟩ : ∃ k,j = m + k := ⟨j - m,by omega⟩
  rw [show 2 ^ (m + k) * y = 2 ^ m * (2 ^ k * y) from by rw [Nat.pow_add]; ac_rfl,halves_shift]
  have : 0 < 2 ^ k * y := Nat.mul_pos (Nat.two_pow_pos k) (by omega)
  omega
theorem halves_zero (m : Nat) : halves m 0 = 0 := by
 induction m with
 | zero => rfl
 | succ m ih => exact ih
theorem low_xor (b M : Nat) (h : b < 256) : b + 256 * M = b ^^^ 256 * M := by
 have h1 : 256 * M = 2 ^ 8 * M := by omega
 rw [h1,Nat.add_comm,Nat.xor_comm]
 have := Nat.two_pow_add_eq_or_of_lt (i := 8) (b := b) (by omega) M
 rw [this]
 apply Nat.eq_of_testBit_eq
 intro i
 rw [Nat.testBit_or,Nat.testBit_xor]
 by_cases hi : i < 8
 ·
  rw [Nat.testBit_two_pow_mul]
  simp [show ¬ (8 ≤ i) from by omega]
 ·
  have : b.testBit i = false := Nat.testBit_lt_two_pow (Nat.lt_of_lt_of_le h (by
   have : 2 ^ 8 ≤ 2 ^ i := Nat.pow_le_pow_right (by omega) (by omega)
   simpa using this))
  simp [this]
theorem eat_le (s : Nat) (l : List UInt8) : eat s l = halves (8 * l.length) (le l ^^^ s) := by
 induction l generalizing s with
 | nil =>
  show s = halves (8 * 0) (0 ^^^ s)
  rw [Nat.mul_zero,Nat.zero_xor,halves]
 | cons b l ih =>
  show eat (halves 8 (s ^^^ b.toNat)) l = _
  have e : halves 8 (le (b :: l) ^^^ s) = le l ^^^ halves 8 (s ^^^ b.toNat) := by
   rw [le,low_xor _ _ b.toNat_lt,show (b.toNat ^^^ 256 * le l) ^^^ s = (2 ^ 8 * le l) ^^^ (s ^^^ b.toNat) from by rw [show 2 ^ 8 = 256 from rfl]; ac_rfl,halves_xor 8 (2 ^ 8 * le l),halves_shift]
  rw [ih,show 8 * (b :: l).length = 8 + 8 * l.length from by simp; omega,halves_add,e]
theorem le_lt (l : List UInt8) : le l < 2 ^ (8 * l.length) := by
 induction l with
 | nil => simp [le]
 | cons b l ih =>
  have hb := b.toNat_lt
  show b.toNat + 256 * le l < _
  rw [show 8 * (b :: l).length = 8 + 8 * l.length from by simp; omega,Nat.pow_add]
  omega
theorem le_append (a b : List UInt8) : le (a ++ b) = le a + 2 ^ (8 * a.length) * le b := by
 induction a with
 | nil => simp [le]
 | cons x a ih =>
  show x.toNat + 256 * le (a ++ b) = x.toNat + 256 * le a + _
  rw [ih,show 8 * (x :: a).length = 8 + 8 * a.length from by simp; omega,Nat.pow_add,Nat.mul_add]
  have : 256 * (2 ^ (8 * a.length) * le b) = 2 ^ 8 * 2 ^ (8 * a.length) * le b := by rw [Nat.mul_assoc]
  omega
theorem unlike (c : Nat) (p q : List UInt8) (j y : Nat) (hl : q.length = p.length) (hq : le q = le p ^^^ (2 ^ j * y)) (hy : y < 4294967296) : on c p = on c q ↔ y = 0 := by
 unfold on
 constructor
 ·
  intro h
  have h1 : eat (c ^^^ 4294967295) p = eat (c ^^^ 4294967295) q := by
   have := congrArg (· ^^^ 4294967295) h
   simpa only [xor_xor] using this
  rw [eat_le,eat_le,hl,hq,show (le p ^^^ 2 ^ j * y) ^^^ (c ^^^ 4294967295) = (le p ^^^ (c ^^^ 4294967295)) ^^^ (2 ^ j * y) from by ac_rfl,halves_xor _ (le p ^^^ (c ^^^ 4294967295))] at h1
  by_cases h0 : y = 0
  · exact h0
  ·
   refine absurd ?_ (burst (8 * p.length) j y hy h0)
   have := congrArg (halves (8 * p.length) (le p ^^^ (c ^^^ 4294967295)) ^^^ ·) h1
   simp only [Nat.xor_self,← Nat.xor_assoc,Nat.zero_xor] at this
   exact this.symm
 ·
  intro h
  subst h
  rw [eat_le,eat_le,hl,hq]
  simp
def four (c : Nat) : List UInt8 := [UInt8.ofNat c,UInt8.ofNat (c / 256),UInt8.ofNat (c / 65536),UInt8.ofNat (c / 16777216)]
theorem le_four (c : Nat) (h : c < 4294967296) : le (four c) = c := by
 simp only [four,le,UInt8.toNat_ofNat']
 omega
theorem four_le (l : List UInt8) (h : l.length = 4) : four (le l) = l := by
 match l,h with
 | [a,b,c,d],_ =>
  have ha := a.toNat_lt
  have hb := b.toNat_lt
  have hc := c.toNat_lt
  have hd := d.toNat_lt
  simp only [four,le]
  have e1 : UInt8.ofNat (a.toNat + 256 * (b.toNat + 256 * (c.toNat + 256 * (d.toNat + 256 * 0)))) = a := UInt8.toNat_inj.1 (by rw [UInt8.toNat_ofNat']; omega)
  have e2 : UInt8.ofNat ((a.toNat + 256 * (b.toNat + 256 * (c.toNat + 256 * (d.toNat + 256 * 0)))) / 256) = b := UInt8.toNat_inj.1 (by rw [UInt8.toNat_ofNat']; omega)
  have e3 : UInt8.ofNat ((a.toNat + 256 * (b.toNat + 256 * (c.toNat + 256 * (d.toNat + 256 * 0)))) / 65536) = c := UInt8.toNat_inj.1 (by rw [UInt8.toNat_ofNat']; omega)
  have e4 : UInt8.ofNat ((a.toNat + 256 * (b.toNat + 256 * (c.toNat + 256 * (d.toNat + 256 * 0)))) / 16777216) = d := UInt8.toNat_inj.1 (by rw [UInt8.toNat_ofNat']; omega)
  rw [e1,e2,e3,e4]
def sealed (p : List UInt8) : List UInt8 := p ++ four (on 0 p)
def good (b : List UInt8) : Bool := on 0 (b.take (b.length - 4)) == le (b.drop (b.length - 4))
theorem good_halves (b : List UInt8) (h : 4 ≤ b.length) : good b = true ↔ halves (8 * (b.length - 4)) (le b ^^^ 4294967295) = 4294967295 := by
 have hb : le b = le (b.take (b.length - 4)) + 2 ^ (8 * (b.length - 4)) * le (b.drop (b.length - 4)) := by
  have := le_append (b.take (b.length - 4)) (b.drop (b.length - 4))
  rw [List.take_append_drop,List.length_take,Nat.min_eq_left (by omega)] at this
  exact this
 have hlt := le_lt (b.take (b.length - 4))
 rw [List.length_take,Nat.min_eq_left (by omega)] at hlt
 have hx : le b = le (b.take (b.length - 4)) ^^^ 2 ^ (8 * (b.length - 4)) * le (b.drop (b.length - 4)) := by
  rw [hb,Nat.add_comm,Nat.two_pow_add_eq_or_of_lt hlt,Nat.xor_comm]
  apply Nat.eq_of_testBit_eq
  intro i
  rw [Nat.testBit_or,Nat.testBit_xor]
  by_cases hi : i < 8 * (b.length - 4)
  ·
   rw [Nat.testBit_two_pow_mul]
   simp [show ¬ (8 * (b.length - 4) ≤ i) from by omega]
  ·
   have : (le (b.take (b.length - 4))).testBit i = false := Nat.testBit_lt_two_pow (Nat.lt_of_lt_of_le hlt (Nat.pow_le_pow_right (by omega) (by omega)))
   simp [this]
 unfold good on
 rw [beq_iff_eq,eat_le,List.length_take,Nat.min_eq_left (by omega),hx]
 rw [show (le (b.take (b.length - 4)) ^^^ 2 ^ (8 * (b.length - 4)) * le (b.drop (b.length - 4))) ^^^ 4294967295 = (le (b.take (b.length - 4)) ^^^ (0 ^^^ 4294967295)) ^^^ (2 ^ (8 * (b.length - 4)) * le (b.drop (b.length - 4))) from by rw [Nat.zero_xor]; ac_rfl]
 rw [halves_xor _ (le (b.take (b.length - 4)) ^^^ (0 ^^^ 4294967295)) (2 ^ (8 * (b.length - 4)) * le (b.drop (b.length - 4))),halves_shift]
 generalize halves (8 * (b.length - 4)) (le (b.take (b.length - 4)) ^^^ (0 ^^^ 4294967295)) = x
 generalize le (b.drop (b.length - 4)) = y
 constructor
 ·
  intro e
  rw [← e,← Nat.xor_assoc,Nat.xor_self,Nat.zero_xor]
 ·
  intro e
  rw [← e,← Nat.xor_assoc,Nat.xor_self,Nat.zero_xor]
theorem sealed_length (p : List UInt8) : (sealed p).length = p.length + 4 := by simp [sealed,four]
theorem good_sealed (p : List UInt8) : good (sealed p) = true := by
 unfold good
 rw [sealed_length,Nat.add_sub_cancel]
 unfold sealed
 rw [List.take_left,List.drop_left,le_four _ (on_lt 0 p (by omega))]
 simp
theorem turned (p b : List UInt8) (j y : Nat) (hl : b.length = p.length + 4) (hb : le b = le (sealed p) ^^^ (2 ^ j * y)) (hy : y < 4294967296) : good b = true ↔ y = 0 := by
 have h1 := (good_halves (sealed p) (by rw [sealed_length]; omega)).1 (good_sealed p)
 rw [sealed_length,Nat.add_sub_cancel] at h1
 rw [good_halves b (by omega),hl,Nat.add_sub_cancel,hb,show (le (sealed p) ^^^ 2 ^ j * y) ^^^ 4294967295 = (le (sealed p) ^^^ 4294967295) ^^^ (2 ^ j * y) from by ac_rfl,halves_xor,h1]
 constructor
 ·
  intro h
  by_cases h0 : y = 0
  · exact h0
  ·
   refine absurd ?_ (burst (8 * p.length) j y hy h0)
   have := congrArg (4294967295 ^^^ ·) h
   simp only [← Nat.xor_assoc,Nat.xor_self,Nat.zero_xor] at this
   exact this
 ·
  intro h
  subst h
  rw [Nat.mul_zero,halves_zero,Nat.xor_zero]
end Go.Proofs.YtlmjeackfepllaaGreatDoor.Crc
namespace Go.Proofs.YtlmjeackfepllaaGreatDoor
open Go.RowKit
theorem and_one (x : Nat) (h : x < 4294967296) : bits .and .u32 (x : Int) 1 = ((x % 2 : Nat) : Int) := by
 have := u32_and_nat x 1 h (by omega)
 rw [Nat.and_one_is_mod] at this
 exact this
theorem half_odd (x : Nat) (h : x < 4294967296) (ho : ((x : Int) % 2 == 1) = true) : bits .xor .u32 ((x : Int) / 2) 3945912366 = ((Crc.half x : Nat) : Int) := by
 have e : (x : Int) % 2 = 1 := by simpa using ho
 unfold Crc.half
 rw [if_pos (by omega),show (x : Int) / 2 = ((x / 2 : Nat) : Int) from by omega]
 exact u32_xor_nat (x / 2) 3945912366 (by omega) (by omega)
theorem half_even (x : Nat) (he : ((x : Int) % 2 == 1) = false) : (x : Int) / 2 = ((Crc.half x : Nat) : Int) := by
 have e : ¬ (x : Int) % 2 = 1 := by simpa using he
 unfold Crc.half
 rw [if_neg (by omega)]
 omega
theorem not_u32 (c : Nat) (h : c < 4294967296) : bits .xor .u32 IntKind.u32.max (c : Int) = ((c ^^^ 4294967295 : Nat) : Int) := by
 rw [Nat.xor_comm,show IntKind.u32.max = 4294967295 from rfl]
 exact u32_xor_nat 4294967295 c (by omega) h
theorem xor_byte (s : Nat) (b : UInt8) (h : s < 4294967296) : bits .xor .u32 (s : Int) (b.toNat : Int) = ((s ^^^ b.toNat : Nat) : Int) :=
 u32_xor_nat s b.toNat h (by have := b.toNat_lt; omega)
theorem eat_snoc (s : Nat) (bs : List UInt8) (k : Nat) (hk : k < bs.length) : Crc.eat s (bs.take (k + 1)) = Crc.halves 8 (Crc.eat s (bs.take k) ^^^ bs[k].toNat) := by
 rw [List.take_succ_eq_append_getElem hk,Crc.eat_append]
 rfl
set_option maxHeartbeats 400000 in
theorem divide_any (s : Nat) (w : World) (h : s < 4294967296) :
  Calls Tryz.prog 197 #[.int .u32 s] w fun e w' => e = .returned (.int .u32 (Crc.halves 8 s : Nat)) ∧ w' = w := by
 go_enter Tryz.func197,Tryz.ntmps197
 go_wp2
 go_loop [0,4] (fun t i => ∃ k : Nat,k ≤ 8 ∧ i = .int .i64 k ∧ t = .int .u32 (Crc.halves k s : Nat)) (fun _ i => 8 - (intOf i).toNat)
 case atStart => exact ⟨0,Nat.zero_le _,rfl,rfl⟩
 case round =>
  obtain ⟨k,hk,rfl,rfl⟩ := hrel
  have hx := Crc.halves_lt k s h
  have hs := Crc.halves_succ k s
  have H8 : Hid (k = 8 → Crc.halves k s = Crc.halves 8 s) := fun e => by rw [e]
  generalize Crc.halves k s = x at *
  have HS : Hid (Crc.halves (k + 1) s = Crc.half x) := hs
  clear hs
  have h1 := and_one x hx
  go_wp2
  ·
   go_round
   case rel => exact ⟨k + 1,by omega,by go_num,by rw [HS.out]; exact congrArg (Value.int .u32) (half_odd x hx ‹_›)⟩
   case measure => simp [intOf]; omega
  ·
   go_round
   case rel => exact ⟨k + 1,by omega,by go_num,by rw [HS.out]; exact congrArg (Value.int .u32) (half_even x ‹_›)⟩
   case measure => simp [intOf]; omega
  ·
   go_ret
   exact ⟨ret_u32 (by rw [H8.out (by omega)]),rfl⟩
set_option maxHeartbeats 400000 in
theorem on_core (c : Nat) (bs : List UInt8) (b off n cap : Nat) (w : World) (hc : c < 4294967296) (hn : n = bs.length) (hl : n ≤ 9223372036854775807)
  (hcell : ∀ k (hk : k < bs.length),w.cell? ⟨b,off + k,none⟩ = some (.int .u8 (bs[k].toNat : Int))) :
  Calls Tryz.prog 186 #[.int .u32 c,.slice (some ⟨b,off,none⟩) n cap] w fun e w' => e = .returned (.int .u32 (Crc.on c bs : Nat)) ∧ w' = w := by
 have h1 := not_u32 c hc
 have HN : Hid (n = bs.length) := hn
 clear hn
 have hcF := Crc.xor_lt c 4294967295 hc (by omega)
 go_enter Tryz.func186,Tryz.ntmps186
 go_wp2
 go_loop [5,12] (fun t i => ∃ k : Nat,k ≤ n ∧ i = .int .i64 k ∧ t = .int .u32 (Crc.eat (c ^^^ 4294967295) (bs.take k) : Nat)) (fun _ i => n - (intOf i).toNat)
 case atStart => exact ⟨0,Nat.zero_le _,rfl,rfl⟩
 case round =>
  obtain ⟨k,hk,rfl,rfl⟩ := hrel
  have hx := Crc.eat_lt (bs.take k) _ hcF
  by_cases hlt : k < n
  ·
   have hkb : k < bs.length := by have := HN.out; omega
   have HS : Hid (Crc.eat (c ^^^ 4294967295) (bs.take (k + 1)) = Crc.halves 8 (Crc.eat (c ^^^ 4294967295) (bs.take k) ^^^ bs[k].toNat)) := eat_snoc _ bs k hkb
   have hcl := hcell k hkb
   generalize Crc.eat (c ^^^ 4294967295) (bs.take k) = x at *
   generalize bs[k] = y at *
   have hxy := xor_byte x y hx
   have hyl := y.toNat_lt
   have hlt2 := Crc.xor_lt x y.toNat hx (by omega)
   clear hcell
   go_wp2_with (go_at_call 197; refine (divide_any _ _ hlt2).mono ?_; rintro e w' ⟨rfl,rfl⟩)
   go_round
   case rel => exact ⟨k + 1,by omega,by go_num,by rw [HS.out]⟩
   case measure => simp [intOf]; omega
  ·
   clear hcell
   have h2 := not_u32 _ hx
   have HE : Hid (Crc.eat (c ^^^ 4294967295) (bs.take k) ^^^ 4294967295 = Crc.on c bs) := by
    unfold Crc.on; rw [List.take_of_length_le (by have := HN.out; omega)]; rfl
   generalize Crc.eat (c ^^^ 4294967295) (bs.take k) = x at *
   go_wp2
   go_ret
   exact ⟨ret_u32 (by rw [HE.out]),rfl⟩
set_option maxHeartbeats 400000 in
theorem on_none (c : Nat) (ao : Option Addr) (cap : Nat) (w : World) (hc : c < 4294967296) :
  Calls Tryz.prog 186 #[.int .u32 c,.slice ao 0 cap] w fun e w' => e = .returned (.int .u32 (c : Nat)) ∧ w' = w := by
 have h1 := not_u32 c hc
 have hcF := Crc.xor_lt c 4294967295 hc (by omega)
 have h2 := not_u32 _ hcF
 go_enter Tryz.func186,Tryz.ntmps186
 go_wp2
 go_loop [5,12] (fun t i => i = .int .i64 0 ∧ t = .int .u32 (c ^^^ 4294967295 : Nat)) (fun _ i => 0)
 case atStart => exact ⟨rfl,rfl⟩
 case round =>
  obtain ⟨rfl,rfl⟩ := hrel
  go_wp2
  go_ret
  exact ⟨ret_u32 (by rw [Crc.xor_xor]),rfl⟩
theorem on_any (c : Nat) (bs : List UInt8) (ao : Option Addr) (n cap : Nat) (w : World) (hc : c < 4294967296) (hn : n = bs.length) (hl : n ≤ 9223372036854775807) (hs : Seg w ao bs) :
  Calls Tryz.prog 186 #[.int .u32 c,.slice ao n cap] w fun e w' => e = .returned (.int .u32 (Crc.on c bs : Nat)) ∧ w' = w := by
 rcases hs with rfl | ⟨b,off,rfl,hcell⟩
 ·
  subst hn
  rw [Crc.on_nil]
  exact on_none c ao cap w hc
 · exact on_core c bs b off n cap w hc hn hl hcell
def Parts (w : World) (g off : Nat) (ps : List (List UInt8)) : Prop :=
 ∀ k (hk : k < ps.length),∃ ao n cp,w.cell? ⟨g,off + k,none⟩ = some (.slice ao n cp) ∧ n = ps[k].length ∧ n ≤ 9223372036854775807 ∧ Seg w ao ps[k]
theorem on_flat (c : Nat) (ps : List (List UInt8)) (k : Nat) (hk : k < ps.length) : Crc.on c (ps.take (k + 1)).flatten = Crc.on (Crc.on c (ps.take k).flatten) ps[k] := by
 rw [List.take_succ_eq_append_getElem hk,List.flatten_append,Crc.on_append]
 simp
set_option maxHeartbeats 400000 in
theorem of_any (ps : List (List UInt8)) (g off m cap : Nat) (w : World) (hm : m = ps.length) (hl : m ≤ 9223372036854775807) (hp : Parts w g off ps) :
  Calls Tryz.prog 163 #[.slice (some ⟨g,off,none⟩) m cap] w fun e w' => e = .returned (.int .u32 (Crc.on 0 ps.flatten : Nat)) ∧ w' = w := by
 have HM : Hid (m = ps.length) := hm
 have HP : Hid (Parts w g off ps) := hp
 clear hm hp
 go_enter Tryz.func163,Tryz.ntmps163
 go_wp2
 go_loop [3,8] (fun t i => ∃ k : Nat,k ≤ m ∧ i = .int .i64 k ∧ t = .int .u32 (Crc.on 0 (ps.take k).flatten : Nat)) (fun _ i => m - (intOf i).toNat)
 case atStart => exact ⟨0,Nat.zero_le _,rfl,by rw [List.take_zero,List.flatten_nil,Crc.on_nil]; rfl⟩
 case round =>
  obtain ⟨k,hk,rfl,rfl⟩ := hrel
  have hx := Crc.on_lt 0 (ps.take k).flatten (by omega)
  by_cases hlt : k < m
  ·
   have hkb : k < ps.length := by have := HM.out; omega
   have HS : Hid (Crc.on 0 (ps.take (k + 1)).flatten = Crc.on (Crc.on 0 (ps.take k).flatten) ps[k]) := on_flat 0 ps k hkb
   obtain ⟨ao,n,cp,hcl,hn,hln,hseg⟩ := HP.out k hkb
   have HN : Hid (n = ps[k].length) := hn
   have HG : Hid (Seg w ao ps[k]) := hseg
   clear hn hseg
   generalize Crc.on 0 (ps.take k).flatten = x at *
   generalize ps[k] = y at *
   go_wp2_with (go_at_call 186; refine (on_any _ y _ _ _ _ hx HN.out hln HG.out).mono ?_; rintro e w' ⟨rfl,rfl⟩)
   go_round
   case rel => exact ⟨k + 1,by omega,by go_num,by rw [HS.out]⟩
   case measure => simp [intOf]; omega
  ·
   have HE : Hid (Crc.on 0 (ps.take k).flatten = Crc.on 0 ps.flatten) := by
    show _ = _
    rw [List.take_of_length_le (by have := HM.out; omega)]
   generalize Crc.on 0 (ps.take k).flatten = x at *
   go_wp2
   go_ret
   exact ⟨ret_u32 (by rw [HE.out]),rfl⟩
set_option maxHeartbeats 400000 in
theorem of_none (ao : Option Addr) (cap : Nat) (w : World) :
  Calls Tryz.prog 163 #[.slice ao 0 cap] w fun e w' => e = .returned (.int .u32 0) ∧ w' = w := by
 go_enter Tryz.func163,Tryz.ntmps163
 go_wp2
 refine wp_loop_rounds 1 ?_
 rw [rounds_succ]
 go_wp2
 go_ret
 exact ⟨rfl,rfl⟩
theorem le_snoc (bs : List UInt8) (k : Nat) (hk : k < bs.length) : Crc.le (bs.take (k + 1)) = Crc.le (bs.take k) + 2 ^ (8 * k) * bs[k].toNat := by
 rw [List.take_succ_eq_append_getElem hk,Crc.le_append]
 simp [Crc.le,Nat.min_eq_left (Nat.le_of_lt hk)]
theorem or_shift (x y k : Nat) (hk : k < 4) (hx : x < 2 ^ (8 * k)) (hy : y < 256) : bits .or .u32 (x : Int) ((y : Int) * 2 ^ (8 * k) % 4294967296) = ((x + 2 ^ (8 * k) * y : Nat) : Int) := by
 have hp : 2 ^ (8 * k) ≤ 16777216 := by
  have : 2 ^ (8 * k) ≤ 2 ^ 24 := Nat.pow_le_pow_right (by omega) (by omega)
  simpa using this
 have hm : y * 2 ^ (8 * k) ≤ 255 * 2 ^ (8 * k) := Nat.mul_le_mul_right _ (by omega)
 have e1 : ((y : Int) * 2 ^ (8 * k) % 4294967296) = ((2 ^ (8 * k) * y : Nat) : Int) := by
  have : ((y : Int) * 2 ^ (8 * k)) = ((y * 2 ^ (8 * k) : Nat) : Int) := by simp
  rw [this,Nat.mul_comm]
  rw [Nat.mul_comm] at hm
  omega
 rw [e1,u32_or_nat _ _ (by omega) (by rw [Nat.mul_comm]; omega),Nat.add_comm,Nat.two_pow_add_eq_or_of_lt hx,Nat.or_comm]
theorem parts_one {u : World} {ao : Option Addr} {bs : List UInt8} {n cap : Nat} (hs : Seg u ao bs) (hn : n = bs.length) (hl : n ≤ 9223372036854775807) :
  Parts (u.alloc (.cells #[.slice ao n cap] 59)) u.heap.size 0 [bs] := by
 intro k hk
 obtain rfl : k = 0 := by simp at hk; omega
 refine ⟨ao,n,cap,?_,hn,hl,hs.below ((Below.refl _ _).alloc (Nat.le_refl _) _)⟩
 rw [cell_of_row _ _ _ _ _ _ (heap_alloc_new u _)]
 rfl
theorem of_one (bs : List UInt8) (ao : Option Addr) (n cap g : Nat) (u : World) (hg : g = u.heap.size) (hs : Seg u ao bs) (hn : n = bs.length) (hl : n ≤ 9223372036854775807) :
  Calls Tryz.prog 163 #[.slice (some ⟨g,0,none⟩) 1 1] (u.alloc (.cells #[.slice ao n cap] 59)) fun e w' => e = .returned (.int .u32 (Crc.on 0 bs : Nat)) ∧ w' = u.alloc (.cells #[.slice ao n cap] 59) := by
 subst hg
 have h := of_any [bs] u.heap.size 0 1 1 _ rfl (by omega) (parts_one (cap := cap) hs hn hl)
 rwa [List.flatten_singleton] at h
theorem Parts.drew {w : World} {g off : Nat} {ps : List (List UInt8)} (h : Parts w g off ps) : Parts w.drew g off ps := h
theorem of_single (bs : List UInt8) (g : Nat) (w : World) (h : Parts w g 0 [bs]) :
  Calls Tryz.prog 163 #[.slice (some ⟨g,0,none⟩) 1 1] w fun e w' => e = .returned (.int .u32 (Crc.on 0 bs : Nat)) ∧ w' = w := by
 have h := of_any [bs] g 0 1 1 _ rfl (by omega) h
 rwa [List.flatten_singleton] at h
theorem parts_cells {w : World} {g : Nat} {vs : Array Value} {ps : List (List UInt8)} (hg : w.heap[g]? = some (.cells vs 59))
  (h : ∀ k (hk : k < ps.length),∃ ao n cp,vs[k]? = some (.slice ao n cp) ∧ n = ps[k].length ∧ n ≤ 9223372036854775807 ∧ Seg w ao ps[k]) : Parts w g 0 ps := by
 intro k hk
 obtain ⟨ao,n,cp,h1,h2⟩ := h k hk
 exact ⟨ao,n,cp,by rw [Nat.zero_add,cell_of_row _ _ _ _ _ _ hg]; exact h1,h2⟩
theorem Seg.alloc {w : World} {ao : Option Addr} {bs : List UInt8} (h : Seg w ao bs) (o : Obj) : Seg (w.alloc o) ao bs := h.below ((Below.refl _ _).alloc (Nat.le_refl _) _)
theorem of_two (p q : List UInt8) (a b : Option Addr) (n m x y g : Nat) (u : World) (hg : g = u.heap.size) (h1 : Seg u a p) (h2 : Seg u b q) (e1 : n = p.length) (e2 : m = q.length) (b1 : n ≤ 9223372036854775807) (b2 : m ≤ 9223372036854775807) :
  Calls Tryz.prog 163 #[.slice (some ⟨g,0,none⟩) 2 2] (u.alloc (.cells #[.slice a n x,.slice b m y] 59)) fun e w' => e = .returned (.int .u32 (Crc.on (Crc.on 0 p) q : Nat)) ∧ w' = u.alloc (.cells #[.slice a n x,.slice b m y] 59) := by
 subst hg
 have hp : Parts (u.alloc (.cells #[.slice a n x,.slice b m y] 59)) u.heap.size 0 [p,q] := by
  refine parts_cells (heap_alloc_new u _) fun k hk => ?_
  match k,hk with
  | 0,_ => exact ⟨a,n,x,rfl,e1,b1,h1.alloc _⟩
  | 1,_ => exact ⟨b,m,y,rfl,e2,b2,h2.alloc _⟩
 have h := of_any [p,q] u.heap.size 0 2 2 _ rfl (by omega) hp
 rwa [show [p,q].flatten = p ++ q from by simp,Crc.on_append] at h
end Go.Proofs.YtlmjeackfepllaaGreatDoor
namespace Go.Proofs.YtlmjeackfepllaaGreatDoor.By
open Go.RowKit
open Mem
def Own (w : World) (B : Nat) (v : Value) (xs : List UInt8) : Prop := w.ownsRow B 5 1 v xs.length (xs.map bv)
theorem own_nil (w : World) (B : Nat) : Own w B (.slice none 0 0) [] := ⟨rfl,.inl ⟨rfl,rfl⟩⟩
theorem own_empty {X : World} {B g : Nat} (hB : B ≤ g) (hg : X.heap[g]? = some (.cells #[] 5 (0,0))) : Own X B (.slice (some ⟨g,0,none⟩) 0 0) [] :=
 ⟨rfl,.inr ⟨g,0,#[],rfl,hB,hg,Nat.le_refl _,Nat.zero_le _,rfl,rfl⟩⟩
theorem own_ls {w : World} {B : Nat} {v : Value} {xs : List UInt8} (h : Own w B v xs) : ∃ ao cap,v = .slice ao xs.length cap ∧ Ls w ao xs.length cap xs ∧ (∀ ad,ao = some ad → ∃ g,ad = ⟨g,0,none⟩ ∧ B ≤ g) := by
 rcases h.2 with ⟨h',h2⟩ | ⟨g,cap,cur,h',hb,hg,hnc,hcm,hcs,htake⟩
 ·
  have e : xs = [] := List.length_eq_zero_iff.1 h2
  subst e
  exact ⟨none,0,h',ls_nil w,fun ad k => by cases k⟩
 ·
  refine ⟨some ⟨g,0,none⟩,cap,h',⟨rfl,hnc,hcm,fun k => (by cases k),.inr ⟨g,0,rfl,fun k hk => ?_⟩⟩,fun ad k => by cases k; exact ⟨g,rfl,hb⟩⟩
  rw [Nat.zero_add,cell_of_row w g _ _ _ _ hg]
  rw [Nat.mul_one] at htake
  have e : (cur.toList.take xs.length)[k]? = (xs.map bv)[k]? := by rw [htake]
  rw [List.getElem?_take_of_lt hk,List.getElem?_map,List.getElem?_eq_getElem hk] at e
  simpa using e
theorem own_ge {w : World} {B : Nat} {v : Value} {xs : List UInt8} (h : Own w B v xs) : ∀ k,v.ownBlock = some k → B ≤ k := by
 intro k hk
 rcases h.2 with ⟨h',_⟩ | ⟨g,cap,cur,h',hb,_⟩
 ·
  rw [h'] at hk
  cases hk
 ·
  rw [h'] at hk
  simp only [Value.ownBlock,Option.some.injEq] at hk
  omega
theorem own_mono {w : World} {B C : Nat} {v : Value} {xs : List UInt8} (h : Own w B v xs) (hc : C ≤ B) : Own w C v xs := by
 obtain ⟨h1,h2⟩ := h
 refine ⟨h1,?_⟩
 rcases h2 with h2 | ⟨g,cap,cur,h',hb,h3⟩
 · exact .inl h2
 · exact .inr ⟨g,cap,cur,h',by omega,h3⟩
theorem own_alloc {w : World} {B : Nat} {v : Value} {xs : List UInt8} (h : Own w B v xs) (o : Obj) : Own (w.alloc o) B v xs := World.ownsRow.alloc h o
theorem own_below {w u : World} {B : Nat} {v : Value} {xs : List UInt8} (h : Own w B v xs) (k : Below w.heap.size w u) : Own u B v xs := by
 obtain ⟨h1,h2⟩ := h
 refine ⟨h1,?_⟩
 rcases h2 with h2 | ⟨g,cap,cur,h',hb,hg,h3⟩
 · exact .inl h2
 ·
  refine .inr ⟨g,cap,cur,h',hb,?_,h3⟩
  have hl : g < w.heap.size := by
   obtain ⟨hl,_⟩ := Array.getElem?_eq_some_iff.1 hg
   exact hl
  rw [k.block g hl]
  exact hg
theorem wpList_append {ops : Array Oper} {rest : List Oper} {o : Oper} {a : Act} {Q : Exit → Act → World → Prop} (w : World) (hgd : o.guard = none) (s x : Operand)
  (ho : o.op = .call { callee := .builtin .append,args := #[s,x],argTypes := #[59,59] })
  (B : Nat) (v : Value) (xs : List UInt8) (hs : a.eval s = v) (hown : Own w B v xs)
  (ao : Option Addr) (n cap : Nat) (zs : List UInt8) (hx : a.eval x = .slice ao n cap) (hn : n = zs.length) (hnil : ao = none → cap = 0) (hsrc : Seg w ao zs) (hl : xs.length + n ≤ 140737488355328) (hb : B ≤ w.heap.size)
  (h : ∀ v' w1,Own w1 B v' (xs ++ zs) → w.grownBy w1 v.ownBlock → (v'.ownBlock = v.ownBlock ∨ v'.ownBlock = some w.heap.size) → wpList Tryz.prog ops Q rest (a.put o.dst v') w1) : wpList Tryz.prog ops Q (o :: rest) a w := by
 refine wpList_plain hgd fun K hK => ?_
 obtain ⟨i0,hi,hz0,hz1,hz2⟩ := info_parts info
 have hmx : maxLen = 9223372036854775807 := rfl
 cases ao with
 | none =>
  obtain rfl : cap = 0 := hnil rfl
  rcases hsrc with e | ⟨b,off,e,_⟩
  ·
   obtain rfl : n = 0 := by rw [hn,e]; rfl
   have hrun := run_append_owned_none (P := Tryz.prog) (w := w) B 59 o.type 5 i0 1 Tryz.underlying59 hi v _ _ hown
   unfold Oper.wp
   simp [execOp,ho,resolve,invoke,builtin,hs,hx,hrun,Result.andThen]
   exact hK _ _ (h v w (by rw [e,List.append_nil]; exact hown) ⟨rfl,rfl,rfl,Nat.le_refl _,fun _ _ _ => rfl⟩ (.inl rfl))
  · cases e
 | some ad =>
  obtain ⟨v',w',hr,h2,h3,_,h5⟩ := run_append_own_at (P := Tryz.prog) w B 59 o.type 5 i0 (.int .u8 0) 1 1 Tryz.underlying59 hi hz0 hz1 hz2 rfl (by omega) v xs.length (xs.map bv) hown ad n cap (zs.map bv) (by rw [List.length_map,hn,Nat.mul_one]) (by
   rcases hsrc with e | ⟨b,off,e,hc⟩
   ·
    rw [e]
    intro j u hu
    simp at hu
   ·
    cases e
    exact fun j u hu => news_of hc j u hu) (one_cell zs) (by omega) (by omega) hb
  unfold Oper.wp execOp
  simp only [ho,resolve,invoke,builtin,Sem.run_bind,Sem.run_pure,Result.andThen_ok,List.map_toArray,List.map_cons,List.map_nil,hs,hx,hr]
  refine hK _ _ (h v' w' ?_ h3 h5)
  unfold Own
  rw [List.map_append,List.length_append,← hn]
  exact h2
theorem seg_one {X : World} {g : Nat} {x : UInt8} {v : Value} (h : X.heap[g]? = some (.cells #[v] 5 (0,0))) (e : bv x = v) : Seg X (some ⟨g,0,none⟩) [x] := by
 refine .inr ⟨g,0,rfl,fun k hk => ?_⟩
 obtain rfl : k = 0 := by simpa using hk
 rw [cell_of_row X g _ _ _ _ h]
 rw [List.getElem_cons_zero,e]
 rfl
end Go.Proofs.YtlmjeackfepllaaGreatDoor.By
namespace Go.Proofs.YtlmjeackfepllaaGreatDoor.By
open Go.RowKit
open Mem
theorem take_snoc {xs ys : List UInt8} {k : Nat} (h : xs.take k = ys.take k) (ha : k < xs.length) (hb : k < ys.length) (e : xs[k] = ys[k]) : xs.take (k + 1) = ys.take (k + 1) := by
 rw [List.take_succ_eq_append_getElem ha,List.take_succ_eq_append_getElem hb,h,e]
set_option maxHeartbeats 1000000 in
theorem same_any (xs ys : List UInt8) (ao bo : Option Addr) (n m ca cb : Nat) (w : World) (hA : Ls w ao n ca xs) (hB : Ls w bo m cb ys) :
  Calls Tryz.prog 65 #[.slice ao n ca,.slice bo m cb] w fun e w' => e = .returned (.bool (decide (xs = ys))) ∧ Below w.heap.size w w' := by
 have HA := Lib.hid hA
 have HB := Lib.hid hB
 have HN := Lib.hid hA.len
 have HM := Lib.hid hB.len
 have hca := hA.reach
 have hfa := hA.fits
 have hcb := hB.reach
 have hfb := hB.fits
 clear hA hB
 by_cases hnm : n = m
 ·
  subst hnm
  have hne : ((n : Int) != (n : Int)) = false := bne_self_eq_false _
  go_enter Tryz.func65,Tryz.ntmps65
  go_wp2
  go_loopw [5] (fun i wr => ∃ k : Nat,k ≤ n ∧ i = .int .i64 k ∧ Hid (xs.take k = ys.take k) ∧ Hid (Below w.heap.size w wr)) (fun i _ => n - (intOf i).toNat)
  case atStart => exact ⟨0,Nat.zero_le _,rfl,Lib.hid rfl,Lib.hid (Below.refl _ _)⟩
  case round =>
   obtain ⟨k,hk,rfl,HT,HBz⟩ := hrel
   by_cases hlt : k < n
   ·
    obtain ⟨a,oa,rfl⟩ := HA.out.at (by omega)
    obtain ⟨b,ob,rfl⟩ := HB.out.at (by omega)
    have hka : k < xs.length := HN.out ▸ hlt
    have hkb : k < ys.length := HM.out ▸ hlt
    have c1 := HA.out.row k hka
    have c2 := HB.out.row k hkb
    rw [← (bcell HBz.out).1 _ _ (cell_lt c1)] at c1
    rw [← (bcell HBz.out).1 _ _ (cell_lt c2)] at c2
    unfold bv at c1 c2
    have hlt' : (k : Int) < (n : Int) := by omega
    by_cases hxy : xs[k] = ys[k]
    ·
     have HT' : Hid (xs.take (k + 1) = ys.take (k + 1)) := Lib.hid (take_snoc HT.out hka hkb hxy)
     have hne : ((xs[k].toNat : Int) != (ys[k].toNat : Int)) = false := by rw [hxy]; simp
     clear hxy
     generalize xs[k] = x at *
     generalize ys[k] = y at *
     go_wp2
     go_quiet (fail)
     go_wp2
     go_roundw
     case rel => exact ⟨k + 1,by omega,by go_num,HT',Lib.hid (below_drewN HBz.out _)⟩
     case measure => simp [intOf]; omega
    ·
     have hne : ((xs[k].toNat : Int) != (ys[k].toNat : Int)) = true := by
      rw [bne_iff_ne]
      intro h
      exact hxy (UInt8.toNat_inj.1 (by omega))
     have HF : Hid (decide (xs = ys) = false) := Lib.hid (by
      rw [decide_eq_false_iff_not]
      intro h
      subst h
      exact hxy rfl)
     clear hxy
     generalize xs[k] = x at *
     generalize ys[k] = y at *
     go_wp2
     go_quiet (fail)
     go_wp2
     go_ret
     exact ⟨by rw [HF.out]; rfl,below_drewN HBz.out _⟩
   ·
    have HF : Hid (decide (xs = ys) = true) := Lib.hid (by
     rw [decide_eq_true_iff]
     have h1 := HT.out
     have h2 := HN.out
     have h3 := HM.out
     rwa [List.take_of_length_le (by omega),List.take_of_length_le (by omega)] at h1)
    go_wp2
    go_ret
    exact ⟨by rw [HF.out]; rfl,HBz.out⟩
 ·
  have HF : Hid (decide (xs = ys) = false) := Lib.hid (by
   rw [decide_eq_false_iff_not]
   intro h
   subst h
   exact hnm (HN.out.trans HM.out.symm))
  have hne : ((n : Int) != (m : Int)) = true := bne_iff_ne.2 (by omega)
  go_enter Tryz.func65,Tryz.ntmps65
  go_wp2
  go_ret
  exact ⟨by rw [HF.out]; rfl,Below.refl _ _⟩
theorem set_rest {L t : List UInt8} {n k : Nat} {v : UInt8} (hn : L.length = n) : (L ++ t).set (n + k) v = L ++ t.set k v := by
 subst hn
 rw [List.set_append_right _ _ (by omega),Nat.add_sub_cancel_left]
theorem take_set {t : List UInt8} {k : Nat} {v : UInt8} (hk : k < t.length) (h : t.take k = List.replicate k v) : (t.set k v).take (k + 1) = List.replicate (k + 1) v := by
 rw [List.take_succ_eq_append_getElem (by simpa using hk),List.take_set_of_le (Nat.le_refl k),h,List.replicate_succ']
 simp
end Go.Proofs.YtlmjeackfepllaaGreatDoor.By
set_option linter.unusedVariables false
namespace Go.Proofs.YtlmjeackfepllaaGreatDoor
open Go.RowKit
open Mem
theorem rows_keep {w u : World} {B e k : Nat} {v : Value} {n : Nat} {xs : List Value} (h : w.ownsRow B e k v n xs) (hb : ∀ g,v.ownBlock = some g → u.heap[g]? = w.heap[g]?) : u.ownsRow B e k v n xs := by
 obtain ⟨h1,h2⟩ := h
 refine ⟨h1,?_⟩
 rcases h2 with h2 | ⟨g,cap,cur,h',hB,hg,h3⟩
 · exact .inl h2
 · exact .inr ⟨g,cap,cur,h',hB,(hb g (by rw [h']; rfl)).trans hg,h3⟩
theorem rows_nil {w : World} {B e k : Nat} {v : Value} {n : Nat} {xs : List Value} (h : w.ownsRow B e k v n xs) (hn : v.ownBlock = none) : v = .slice none 0 0 ∧ n = 0 := by
 rcases h.2 with h2 | ⟨g,cap,cur,h',hB,hg,h3⟩
 · exact h2
 ·
  rw [h'] at hn
  cases hn
structure UpdQ (Q : Nat → Prop) (u v : World) : Prop where
 size : u.heap.size ≤ v.heap.size
 block : ∀ b,b < u.heap.size → ¬ Q b → v.heap[b]? = u.heap[b]?
 below : ∀ w0,Below w0.heap.size w0 u → (∀ b,Q b → w0.heap.size ≤ b) → Below w0.heap.size w0 v
theorem UpdQ.of {Q : Nat → Prop} {u v : World} (h : Below u.heap.size u v) : UpdQ Q u v := ⟨h.size,fun b hb _ => h.block b hb,fun _ k _ => bchain k h⟩
theorem UpdQ.refl (Q : Nat → Prop) (u : World) : UpdQ Q u u := UpdQ.of (Below.refl _ _)
theorem UpdQ.trans {Q : Nat → Prop} {u v w : World} (h : UpdQ Q u v) (k : UpdQ Q v w) : UpdQ Q u w :=
 ⟨Nat.le_trans h.size k.size,fun b hb hq => (k.block b (Nat.lt_of_lt_of_le hb h.size) hq).trans (h.block b hb hq),fun w0 a c => k.below w0 (h.below w0 a c) c⟩
theorem UpdQ.mono {Q R : Nat → Prop} {u v : World} (h : UpdQ Q u v) (k : ∀ b,Q b → R b) : UpdQ R u v := ⟨h.size,fun b hb hr => h.block b hb fun q => hr (k b q),fun w0 a c => h.below w0 a fun b q => c b (k b q)⟩
theorem UpdQ.set {Q : Nat → Prop} {g : Nat} (u : World) (hg : Q g) (o : Nat) (x : Value) : UpdQ Q u (u.setCell ⟨g,o,none⟩ x) :=
 ⟨by simp,fun b _ hq => heap_setCell_other u ⟨g,o,none⟩ b x (fun e => hq (by rw [show b = g from e]; exact hg)),fun w0 a c => a.setCell (c g hg) x⟩
theorem UpdQ.belowT {Q : Nat → Prop} {u v w : World} (h : UpdQ Q u v) (k : Below v.heap.size v w) : UpdQ Q u w := h.trans (UpdQ.of k)
theorem UpdQ.rows {Q : Nat → Prop} {u v : World} {B e k : Nat} {x : Value} {n : Nat} {xs : List Value} (f : UpdQ Q u v) (h : u.ownsRow B e k x n xs) (hQ : ∀ g,x.ownBlock = some g → ¬ Q g) : v.ownsRow B e k x n xs :=
 rows_keep h fun g hg => f.block g (World.ownsRow.lt h g hg).2 (hQ g hg)
def nw (P : Nat → Prop) (w : World) (b : Nat) : Prop := P b ∨ w.heap.size ≤ b
theorem nw_nw {P : Nat → Prop} {u w : World} (h : u.heap.size ≤ w.heap.size) (b : Nat) (k : nw (nw P u) w b) : nw P u b := k.elim id fun q => .inr (Nat.le_trans h q)
end Go.Proofs.YtlmjeackfepllaaGreatDoor
set_option maxRecDepth 100000
namespace Go.Proofs.YtlmjeackfepllaaGreatDoor
open Go.RowKit
open Mem
theorem fm_copied (ao : Option Addr) (n cap : Nat) (bs : List UInt8) (w : World) (hL : By.Ls w ao n cap bs) (hn : n ≤ 140737488355328) :
  Calls Tryz.prog 164 #[.slice ao n cap] w fun e w' => ∃ g,e = .returned (.slice (some ⟨g,0,none⟩) n n) ∧ By.Block w' g bs ∧ w.heap.size ≤ g ∧ Below w.heap.size w w' := by
 have hlen := hL.len
 have hmk := By.make n hn w
 obtain ⟨W2,hW2⟩ : ∃ W2,w.alloc (.cells (By.zeros n) 5) = W2 := ⟨_,rfl⟩
 have b2 : Below w.heap.size w W2 := hW2 ▸ (Below.refl _ _).alloc (Nat.le_refl _) _
 have hbl : By.Block W2 w.heap.size (List.replicate n 0) := hW2 ▸ By.block_made w _
 rw [hW2] at hmk
 obtain ⟨W3,hcp,hb3,hbel,hsz⟩ := By.copy W2 w.heap.size 0 [] [] n ao n cap bs (by simpa using hbl) rfl hlen (hL.seg.below b2) (some ⟨w.heap.size,0,none⟩) (fun _ => rfl)
 simp only [List.length_nil,Nat.add_zero] at hcp
 have HF : Hid (By.Block W3 w.heap.size bs ∧ Below w.heap.size w W3) := Lib.hid ⟨by simpa using hb3,hbel _ w b2 (Nat.le_refl _)⟩
 have hfit := hL.fits
 have hrch := hL.reach
 clear hL hlen hbl hb3 hbel hsz b2
 go_enter Tryz.func164,Tryz.ntmps164
 go_wp2
 go_ret
 exact ⟨_,rfl,HF.out.1,Nat.le_refl _,HF.out.2⟩
theorem Fm.le4 (a b c d : UInt8) : Crc.le [a,b,c,d] = a.toNat + 256 * (b.toNat + 256 * (c.toNat + 256 * (d.toNat + 256 * 0))) := rfl
theorem Fm.or_at (m x p : Nat) (hp : ∃ i,p = 2 ^ i) (hm : m < p) (hx : m + x * p < 4294967296) : bits .or .u32 (m : Int) ((x : Int) * (p : Int)) = ((m + x * p : Nat) : Int) := by
 obtain ⟨i,rfl⟩ := hp
 have h1 := Nat.two_pow_add_eq_or_of_lt hm x
 have h2 := u32_or_nat m (x * 2 ^ i) (by omega) (by omega)
 rw [Int.natCast_mul] at h2
 rw [h2,Nat.or_comm,Nat.mul_comm x,← h1,Nat.add_comm]
set_option maxHeartbeats 2000000 in
theorem fm_read (g off n cap : Nat) (a b c d : UInt8) (w : World) (h0 : w.cell? ⟨g,off,none⟩ = some (.int .u8 (a.toNat : Int))) (h1 : w.cell? ⟨g,off + 1,none⟩ = some (.int .u8 (b.toNat : Int))) (h2 : w.cell? ⟨g,off + 2,none⟩ = some (.int .u8 (c.toNat : Int))) (h3 : w.cell? ⟨g,off + 3,none⟩ = some (.int .u8 (d.toNat : Int))) (hn : 4 ≤ n) (hc : n ≤ cap) (hr : cap ≤ 9223372036854775807) :
  Calls Tryz.prog 162 #[.slice (some ⟨g,off,none⟩) n cap] w fun e w' => e = .returned (.int .u32 (Crc.le [a,b,c,d] : Nat)) ∧ w' = w := by
 have ha := a.toNat_lt
 have hb := b.toNat_lt
 have hcc := c.toNat_lt
 have hd := d.toNat_lt
 go_enter Tryz.func162,Tryz.ntmps162
 go_wp2
 go_loop [3,4,5] (fun t _ j => ∃ k m : Nat,k ≤ 4 ∧ j = .int .i64 k ∧ t = .int .u32 m ∧ Hid (m = Crc.le ([a,b,c,d].take k))) (fun _ _ j => 4 - (intOf j).toNat)
 case atStart => exact ⟨0,0,by omega,rfl,rfl,Lib.hid rfl⟩
 case round =>
  obtain ⟨k,m,hk,rfl,rfl,HM⟩ := hrel
  rcases (by omega : k = 0 ∨ k = 1 ∨ k = 2 ∨ k = 3 ∨ k = 4) with rfl | rfl | rfl | rfl | rfl
  ·
   have e : m = 0 := HM.out
   subst e
   have hor := Fm.or_at 0 a.toNat 1 ⟨0,rfl⟩ (by omega) (by omega)
   simp only [Int.natCast_one,Int.mul_one,Nat.mul_one,Nat.zero_add] at hor
   go_wp2
   go_round
   case rel => exact ⟨1,a.toNat,by omega,by go_num,by go_num,Lib.hid rfl⟩
   case measure => simp [intOf]
  ·
   have e : m = a.toNat + 256 * 0 := HM.out
   have hor : bits .or .u32 (m : Int) ((b.toNat : Int) * 256) = ((m + b.toNat * 256 : Nat) : Int) := Fm.or_at m b.toNat 256 ⟨8,rfl⟩ (by omega) (by omega)
   have HE := Lib.hid e
   clear e
   go_wp2
   go_round
   case rel => exact ⟨2,m + b.toNat * 256,by omega,by go_num,by go_num,Lib.hid (by rw [HE.out]; show _ = a.toNat + 256 * (b.toNat + 256 * 0); omega)⟩
   case measure => simp [intOf]
  ·
   have e : m = a.toNat + 256 * (b.toNat + 256 * 0) := HM.out
   have hor : bits .or .u32 (m : Int) ((c.toNat : Int) * 65536) = ((m + c.toNat * 65536 : Nat) : Int) := Fm.or_at m c.toNat 65536 ⟨16,rfl⟩ (by omega) (by omega)
   have HE := Lib.hid e
   clear e
   go_wp2
   go_round
   case rel => exact ⟨3,m + c.toNat * 65536,by omega,by go_num,by go_num,Lib.hid (by rw [HE.out]; show _ = a.toNat + 256 * (b.toNat + 256 * (c.toNat + 256 * 0)); omega)⟩
   case measure => simp [intOf]
  ·
   have e : m = a.toNat + 256 * (b.toNat + 256 * (c.toNat + 256 * 0)) := HM.out
   have hor : bits .or .u32 (m : Int) ((d.toNat : Int) * 16777216) = ((m + d.toNat * 16777216 : Nat) : Int) := Fm.or_at m d.toNat 16777216 ⟨24,rfl⟩ (by omega) (by omega)
   have HE := Lib.hid e
   clear e
   go_wp2
   go_round
   case rel => exact ⟨4,m + d.toNat * 16777216,by omega,by go_num,by go_num,Lib.hid (by rw [HE.out]; show _ = a.toNat + 256 * (b.toNat + 256 * (c.toNat + 256 * (d.toNat + 256 * 0))); omega)⟩
   case measure => simp [intOf]
  ·
   have HE : Hid (m = Crc.le [a,b,c,d]) := HM
   go_wp2
   go_ret
   exact ⟨by rw [HE.out]; rfl,rfl⟩
def Fm.over (bs xs : List UInt8) (o : Nat) : List UInt8 := bs.take o ++ xs ++ bs.drop (o + xs.length)
theorem Fm.over_len {bs xs : List UInt8} {o : Nat} (h : o + xs.length ≤ bs.length) : (Fm.over bs xs o).length = bs.length := by
 unfold Fm.over
 rw [List.length_append,List.length_append,List.length_take,List.length_drop]
 omega
theorem Fm.over_snoc {bs xs : List UInt8} {o : Nat} {y : UInt8} (h : o + xs.length < bs.length) : (Fm.over bs xs o).set (o + xs.length) y = Fm.over bs (xs ++ [y]) o := by
 unfold Fm.over
 have hl : (bs.take o ++ xs).length = o + xs.length := by
  rw [List.length_append,List.length_take]
  omega
 rw [List.set_append_right _ _ (by omega),hl,Nat.sub_self,List.drop_eq_getElem_cons h,List.set_cons_zero,List.length_append,List.length_singleton,← Nat.add_assoc,List.append_assoc,List.append_assoc,List.append_assoc,List.singleton_append]
set_option maxHeartbeats 4000000 in
theorem fm_write (g off n cap v : Nat) (bs : List UInt8) (w : World) (hB : By.Block w g bs) (ho : off + 4 ≤ bs.length) (hn : 4 ≤ n) (hc : n ≤ cap) (hr : cap ≤ 9223372036854775807) (hv : v < 4294967296) :
  Calls Tryz.prog 178 #[.slice (some ⟨g,off,none⟩) n cap,.int .u32 (v : Int)] w fun e w' => e = .returned (.tuple #[]) ∧ By.Block w' g (Fm.over bs (Crc.four v) off) ∧ UpdQ (fun b => b = g) w w' := by
 have HB := Lib.hid hB
 clear hB
 have H0 : Hid (By.Block w g (Fm.over bs ((Crc.four v).take 0) off) ∧ UpdQ (fun b => b = g) w w) := Lib.hid ⟨by
  have e : Fm.over bs ((Crc.four v).take 0) off = bs := by
   unfold Fm.over
   simp
  rw [e]
  exact HB.out,UpdQ.refl _ _⟩
 have hl4 : (Crc.four v).length = 4 := rfl
 go_enter Tryz.func178,Tryz.ntmps178
 go_wp2
 go_loopw [4,5] (fun _ j wr => ∃ k : Nat,k ≤ 4 ∧ j = .int .i64 k ∧ Hid (By.Block wr g (Fm.over bs ((Crc.four v).take k) off) ∧ UpdQ (fun b => b = g) w wr)) (fun _ j _ => 4 - (intOf j).toNat)
 case atStart => exact ⟨0,by omega,rfl,H0⟩
 case round =>
  clear H0
  rename World => wz
  obtain ⟨k,hk,rfl,H⟩ := hrel
  by_cases hlt : k < 4
  ·
   have hlk : ((Crc.four v).take k).length = k := by rw [List.length_take,hl4]; omega
   have hov : (Fm.over bs ((Crc.four v).take k) off).length = bs.length := Fm.over_len (by rw [hlk]; omega)
   have hin : off + k < (Fm.over bs ((Crc.four v).take k) off).length := by omega
   obtain ⟨oc,c0⟩ : ∃ oc,wz.cell? ⟨g,off + k,none⟩ = some oc := ⟨_,H.out.1.row (off + k) hin⟩
   have f0 := H.out.1.frozen (off + k)
   have HN : Hid (∀ y,(Crc.four v)[k]? = some y → By.Block (wz.setCell ⟨g,off + k,none⟩ (By.bv y)) g (Fm.over bs ((Crc.four v).take (k + 1)) off) ∧ UpdQ (fun b => b = g) w (wz.setCell ⟨g,off + k,none⟩ (By.bv y))) := Lib.hid fun y hy => by
    obtain ⟨h4,e4⟩ := List.getElem?_eq_some_iff.1 hy
    have h1 := H.out.1.store (off + k) y
    have h2 := Fm.over_snoc (bs := bs) (xs := (Crc.four v).take k) (o := off) (y := y) (by rw [hlk]; omega)
    rw [hlk] at h2
    rw [h2] at h1
    rw [List.take_succ_eq_append_getElem h4,e4]
    exact ⟨h1,H.out.2.trans (UpdQ.set (Q := fun b => b = g) _ rfl _ _)⟩
   clear H hlk hov hin hl4
   rcases (by omega : k = 0 ∨ k = 1 ∨ k = 2 ∨ k = 3) with rfl | rfl | rfl | rfl
   ·
    have hb : By.bv (UInt8.ofNat (v)) = .int .u8 ((v : Int) % 256) := by
     unfold By.bv
     rw [UInt8.toNat_ofNat']
     congr 1
    have hn0 := HN.out (UInt8.ofNat (v)) rfl
    rw [hb] at hn0
    have HN0 := Lib.hid hn0
    clear hn0 hb HN
    rw [Nat.add_zero] at c0 f0 HN0
    go_wp2
    go_roundw
    case rel => exact ⟨1,by omega,by go_num,HN0⟩
    case measure => simp [intOf]
   ·
    have hb : By.bv (UInt8.ofNat (v / 256)) = .int .u8 ((v : Int) / 256 % 256) := by
     unfold By.bv
     rw [UInt8.toNat_ofNat']
     congr 1
    have hn0 := HN.out (UInt8.ofNat (v / 256)) rfl
    rw [hb] at hn0
    have HN0 := Lib.hid hn0
    clear hn0 hb HN
    go_wp2
    go_roundw
    case rel => exact ⟨2,by omega,by go_num,HN0⟩
    case measure => simp [intOf]
   ·
    have hb : By.bv (UInt8.ofNat (v / 65536)) = .int .u8 ((v : Int) / 65536 % 256) := by
     unfold By.bv
     rw [UInt8.toNat_ofNat']
     congr 1
    have hn0 := HN.out (UInt8.ofNat (v / 65536)) rfl
    rw [hb] at hn0
    have HN0 := Lib.hid hn0
    clear hn0 hb HN
    go_wp2
    go_roundw
    case rel => exact ⟨3,by omega,by go_num,HN0⟩
    case measure => simp [intOf]
   ·
    have hb : By.bv (UInt8.ofNat (v / 16777216)) = .int .u8 ((v : Int) / 16777216) := by
     unfold By.bv
     rw [UInt8.toNat_ofNat',Nat.mod_eq_of_lt (by omega)]
     congr 1
    have hn0 := HN.out (UInt8.ofNat (v / 16777216)) rfl
    rw [hb] at hn0
    have HN0 := Lib.hid hn0
    clear hn0 hb HN
    go_wp2
    go_roundw
    case rel => exact ⟨4,by omega,by go_num,HN0⟩
    case measure => simp [intOf]
  ·
   obtain rfl : k = 4 := by omega
   have HF : Hid (By.Block wz g (Fm.over bs (Crc.four v) off) ∧ UpdQ (fun b => b = g) w wz) := H
   go_wp2
   go_end0
   exact ⟨rfl,HF.out.1,HF.out.2⟩
end Go.Proofs.YtlmjeackfepllaaGreatDoor
namespace Go.Proofs.YtlmjeackfepllaaGreatDoor
open Go.RowKit
open Mem
def Fm.frame (p : List UInt8) : List UInt8 := Crc.four p.length ++ p ++ Crc.four (Crc.on 0 (Crc.four p.length ++ p))
def Fm.put (b p : List UInt8) : List UInt8 := if p.length = 0 ∨ 131072 < p.length then b else b ++ Fm.frame p
theorem Fm.four_len (n : Nat) : (Crc.four n).length = 4 := rfl
theorem Fm.over_at (a b c x : List UInt8) (h : b.length = x.length) : Fm.over (a ++ b ++ c) x a.length = a ++ x ++ c := by
 unfold Fm.over
 rw [show a ++ b ++ c = a ++ (b ++ c) from List.append_assoc _ _ _,List.take_left' rfl,← h,← List.drop_drop,List.drop_left' rfl,List.drop_left' rfl]
theorem Fm.seg_mid {w : World} {g : Nat} {a x c : List UInt8} {n : Nat} (h : By.Block w g (a ++ x ++ c)) (hn : n = a.length) : Seg w (some ⟨g,n,none⟩) x := by
 refine .inr ⟨g,n,rfl,fun k hk => ?_⟩
 have hi : n + k < (a ++ x ++ c).length := by
  rw [List.length_append,List.length_append]
  omega
 have h1 := h.row (n + k) hi
 have e : (a ++ x ++ c)[n + k] = x[k] := by
  rw [List.getElem_append_left (by rw [List.length_append]; omega),List.getElem_append_right (by omega)]
  congr 1
  omega
 rw [e] at h1
 exact h1
def Fm.PutE (w : World) (bs : List UInt8) (e : Ending) (w' : World) : Prop := ∃ g,e = .returned (.slice (some ⟨g,0,none⟩) bs.length bs.length) ∧ By.Block w' g bs ∧ w.heap.size ≤ g ∧ Below w.heap.size w w'
set_option maxHeartbeats 4000000 in
theorem fm_put (ao : Option Addr) (n cap : Nat) (bs : List UInt8) (po : Option Addr) (m pcap : Nat) (ps : List UInt8) (w : World) (hB : By.Ls w ao n cap bs) (hP : By.Ls w po m pcap ps) (hn : n ≤ 140737488000000) :
  Calls Tryz.prog 148 #[.slice ao n cap,.slice po m pcap] w (Fm.PutE w (Fm.put bs ps)) := by
 have hbl := hB.len
 have hpl := hP.len
 have b1 := hB.fits
 have b2 := hB.reach
 have p1 := hP.fits
 have p2 := hP.reach
 by_cases hbad : m = 0 ∨ 131072 < m
 ·
  have HE : Hid (Fm.put bs ps = bs) := Lib.hid (if_pos (by rw [← hpl]; exact hbad))
  have C := Lib.hid (fm_copied ao n cap bs w hB (by omega))
  have HL := Lib.hid hbl
  clear hB hP hbl hpl
  by_cases h0 : m = 0
  ·
   subst h0
   go_enter Tryz.func148,Tryz.ntmps148
   go_wp2_with (go_at_call 164; refine C.out.mono ?_; rintro e W1 ⟨g,rfl,h1,h2,h3⟩; have HF := Lib.hid (And.intro h1 (And.intro h2 h3)); clear h1 h2 h3 C)
   go_ret
   exact ⟨g,by rw [HE.out,← HL.out]; rfl,by rw [HE.out]; exact HF.out.1,HF.out.2.1,HF.out.2.2⟩
  ·
   have hbig : (131072 : Int) < (m : Int) := by omega
   have hq : ((m : Int) == 0) = false := by
    rw [beq_eq_false_iff_ne]
    omega
   go_enter Tryz.func148,Tryz.ntmps148
   go_wp2_with (go_at_call 164; refine C.out.mono ?_; rintro e W1 ⟨g,rfl,h1,h2,h3⟩; have HF := Lib.hid (And.intro h1 (And.intro h2 h3)); clear h1 h2 h3 C)
   go_ret
   exact ⟨g,by rw [HE.out,← HL.out]; rfl,by rw [HE.out]; exact HF.out.1,HF.out.2.1,HF.out.2.2⟩
 ·
  have hm0 : m ≠ 0 := fun z => hbad (.inl z)
  have hm1 : m ≤ 131072 := by omega
  have hq : ((m : Int) == 0) = false := by
   rw [beq_eq_false_iff_ne]
   omega
  have hsm : ¬ (131072 : Int) < (m : Int) := by omega
  obtain ⟨bd,hbd⟩ : ∃ bd,4 + m = bd := ⟨_,rfl⟩
  obtain ⟨e1,he1⟩ : ∃ e1,n + bd = e1 := ⟨_,rfl⟩
  obtain ⟨N,hN⟩ : ∃ N,e1 + 4 = N := ⟨_,rfl⟩
  have i1 : (4 : Int) + (m : Int) = (bd : Int) := by omega
  have i2 : (n : Int) + (bd : Int) = (e1 : Int) := by omega
  have i3 : (e1 : Int) + 4 = (N : Int) := by omega
  obtain ⟨fl,hfl⟩ : ∃ fl,N - n = fl := ⟨_,rfl⟩
  obtain ⟨f4,hf4⟩ : ∃ f4,fl - 4 = f4 := ⟨_,rfl⟩
  have hmk := By.make N (by omega) w
  obtain ⟨W1,hW1⟩ : ∃ W1,w.alloc (.cells (By.zeros N) 5) = W1 := ⟨_,rfl⟩
  have c1 : Below w.heap.size w W1 := hW1 ▸ (Below.refl _ _).alloc (Nat.le_refl _) _
  have hb1 : By.Block W1 w.heap.size (List.replicate N 0) := hW1 ▸ By.block_made w _
  rw [hW1] at hmk
  obtain ⟨g,hg⟩ : ∃ g,w.heap.size = g := ⟨_,rfl⟩
  have hrep : List.replicate N (0 : UInt8) = [] ++ List.replicate n 0 ++ List.replicate (bd + 4) 0 := by
   rw [List.nil_append,List.replicate_append_replicate]
   congr 1
   omega
  rw [hrep] at hb1
  obtain ⟨W2,hcp,hb2,hbel2,hsz2⟩ := By.copy W1 w.heap.size 0 [] (List.replicate (bd + 4) 0) N ao n cap bs hb1 rfl hbl (hB.seg.below c1) (some ⟨w.heap.size,0,none⟩) (fun _ => rfl)
  rw [List.length_replicate,show n + (bd + 4) = N by omega] at hcp
  have c2 : Below w.heap.size w W2 := hbel2 _ w c1 (Nat.le_refl _)
  have hb2' : By.Block W2 g (bs ++ List.replicate 4 0 ++ List.replicate (m + 4) 0) := by
   rw [List.append_assoc,List.replicate_append_replicate,show 4 + (m + 4) = bd + 4 by omega,← hg]
   exact hb2
  have CW1 := Lib.hid (fm_write g n fl fl m _ W2 hb2' (by rw [List.length_append,List.length_append,List.length_replicate,List.length_replicate]; omega) (by omega) (Nat.le_refl _) (by omega) (by omega))
  rw [show n = bs.length from hbl,Fm.over_at bs (List.replicate 4 0) (List.replicate (m + 4) 0) (Crc.four m) rfl,← hbl] at CW1
  have HC2 := Lib.hid c2
  have HBl := Lib.hid hbl
  have HPl := Lib.hid hpl
  have HG := Lib.hid hg
  have HPs := Lib.hid hP.seg
  have HPut : Hid (Fm.put bs ps = bs ++ Fm.frame ps) := Lib.hid (if_neg (by rw [← hpl]; omega))
  rw [hg] at hmk hcp
  have hNn : ¬ N = n := by omega
  have hnN : n ≤ N := by omega
  have hf4' : ¬ fl = 4 := by omega
  have h4f : 4 ≤ fl := by omega
  have hfb : ¬ fl = bd := by omega
  have hbf : bd ≤ fl := by omega
  have hmod : (m : Int) % 4294967296 = (m : Int) := by omega
  have hNb : N ≤ 140737488355328 := by omega
  have HAr : Hid (4 + m = bd ∧ n + bd = e1 ∧ e1 + 4 = N ∧ fl = bd + 4 ∧ f4 = m + 4) := Lib.hid ⟨hbd,he1,hN,by omega,by omega⟩
  clear hbad hB hP hb1 hb2 hb2' hbel2 hsz2 hrep c1 c2 hbl hpl hm0 hbd he1 hN hg
  go_enter Tryz.func148,Tryz.ntmps148
  go_wp2_with fail
  refine CW1.out.mono ?_
  rintro e W3 ⟨rfl,hb3,u3⟩
  obtain ⟨r1,r2,r3,r4,r5⟩ := HAr.out
  have c3 : Below w.heap.size w W3 := u3.below w HC2.out fun b z => by have := HG.out; omega
  rw [show m + 4 = m + 4 from rfl,← List.replicate_append_replicate,← List.append_assoc] at hb3
  obtain ⟨W4,hcp2,hb4,hbel4,hsz4⟩ := By.copy W3 g (n + 4) (bs ++ Crc.four m) (List.replicate 4 0) f4 po m pcap ps hb3 (by rw [List.length_append,Fm.four_len,← HBl.out]) HPl.out (HPs.out.below c3) (some ⟨g,n + 4,none⟩) (fun _ => rfl)
  rw [List.length_replicate,show m + 4 = f4 by omega] at hcp2
  have c4 : Below w.heap.size w W4 := hbel4 _ w c3 (by have := HG.out; omega)
  have HB4 := Lib.hid hb4
  have HC4 := Lib.hid c4
  have hl4 : (Crc.four m ++ ps).length = bd := by
   rw [List.length_append,Fm.four_len,← HPl.out]
   exact r1
  obtain ⟨sv,hsv⟩ : ∃ sv,Crc.on 0 (Crc.four m ++ ps) = sv := ⟨_,rfl⟩
  have hsvl : sv < 4294967296 := hsv ▸ Crc.on_lt 0 _ (by omega)
  have hseg : Seg W4.drew (some ⟨g,n,none⟩) (Crc.four m ++ ps) := Fm.seg_mid (a := bs) (c := List.replicate 4 0) (by rw [← List.append_assoc]; exact hb4) HBl.out
  have CO := Lib.hid (of_one (Crc.four m ++ ps) (some ⟨g,n,none⟩) bd fl W4.heap.size W4.drew rfl hseg hl4.symm (by omega))
  rw [hsv] at CO
  have HCW : Hid (∀ u,Below W4.heap.size W4 u → Calls Tryz.prog 178 #[.slice (some ⟨g,n + bd,none⟩) 4 4,.int .u32 (sv : Int)] u fun e w' => e = .returned (.tuple #[]) ∧ By.Block w' g (Fm.put bs ps) ∧ Below w.heap.size w w') := Lib.hid fun u b => by
   have hbu : By.Block u g ((bs ++ Crc.four m ++ ps) ++ List.replicate 4 0 ++ []) := by
    rw [List.append_nil]
    exact HB4.out.below b
   have hlen : (bs ++ Crc.four m ++ ps).length = n + bd := by
    rw [List.append_assoc,List.length_append,hl4,← HBl.out]
   refine (fm_write g (n + bd) 4 4 sv _ u hbu (by rw [List.append_nil,List.length_append,hlen,List.length_replicate]; omega) (Nat.le_refl _) (Nat.le_refl _) (by omega) hsvl).mono ?_
   rintro e w' ⟨rfl,hbw,uw⟩
   rw [← hlen,Fm.over_at _ (List.replicate 4 0) [] (Crc.four sv) rfl,List.append_nil] at hbw
   refine ⟨rfl,?_,uw.below w (bchain HC4.out b) fun c z => by have := HG.out; omega⟩
   rw [HPut.out]
   unfold Fm.frame
   rw [← HPl.out,hsv,← List.append_assoc,← List.append_assoc]
   exact hbw
  have hfb4 : fl - bd = 4 := by omega
  have HPL : Hid ((Fm.put bs ps).length = N) := Lib.hid (by
   rw [HPut.out]
   unfold Fm.frame
   rw [List.length_append,List.length_append,← HPl.out,hl4,Fm.four_len,← HBl.out]
   omega)
  have HGe : Hid (w.heap.size ≤ g) := Lib.hid (by have := HG.out; omega)
  clear hb3 u3 c3 hb4 hbel4 hsz4 c4 hseg hsv CW1 HC2 HB4 hl4 HAr HPs r1 r2 r3 r4 r5
  go_wp2_with fail
  go_region_with (first | (go_at_call 163; refine CO.out.mono ?_; rintro e u ⟨rfl,hu⟩; rw [hu]; have CW2 := Lib.hid (HCW.out (W4.drew.alloc (.cells #[.slice (some ⟨g,n,none⟩) bd fl] 59)) (((Below.refl W4.heap.size W4).drew).alloc (Nat.le_refl _) _)); clear hu u CO) | (go_at_call 178; refine CW2.out.mono ?_; rintro e W6 ⟨rfl,hb6,c6⟩; have HB6 := Lib.hid hb6; have HC6 := Lib.hid c6; clear hb6 c6 CW2))
  all_goals
   go_wp2_with fail
   go_ret
   exact ⟨g,by rw [HPL.out]; rfl,HB6.out,HGe.out,HC6.out⟩
end Go.Proofs.YtlmjeackfepllaaGreatDoor
namespace Go.Proofs.YtlmjeackfepllaaGreatDoor
open Go.RowKit
open Mem
def Fm.nextF (f : List UInt8) : List UInt8 × Nat × Nat :=
 if f.length < 4 then ([],0,3) else if Crc.le (f.take 4) = 0 ∨ 131072 < Crc.le (f.take 4) then ([],0,4) else
 if f.length < Crc.le (f.take 4) + 8 then ([],0,3) else
 if Crc.on 0 (f.take (4 + Crc.le (f.take 4))) ≠ Crc.le ((f.drop (4 + Crc.le (f.take 4))).take 4) then ([],0,6) else
 ((f.drop 4).take (Crc.le (f.take 4)),Crc.le (f.take 4) + 8,0)
def Fm.NextE (w : World) (bs : List UInt8) (i : Int) (e : Ending) (w' : World) : Prop :=
 Below w.heap.size w w' ∧ (((i < 0 ∨ (bs.length : Int) < i) ∧ e = .returned (.tuple #[.slice none 0 0,.int .i64 0,.int .i64 1])) ∨
  ∃ k : Nat,i = (k : Int) ∧ k ≤ bs.length ∧ (((Fm.nextF (bs.drop k)).2.2 ≠ 0 ∧ e = .returned (.tuple #[.slice none 0 0,.int .i64 0,.int .i64 ((Fm.nextF (bs.drop k)).2.2 : Nat)])) ∨
   ((Fm.nextF (bs.drop k)).2.2 = 0 ∧ ∃ g,w.heap.size ≤ g ∧ By.Block w' g (Fm.nextF (bs.drop k)).1 ∧ e = .returned (.tuple #[.slice (some ⟨g,0,none⟩) (Fm.nextF (bs.drop k)).1.length (Fm.nextF (bs.drop k)).1.length,.int .i64 ((k + (Fm.nextF (bs.drop k)).2.1 : Nat) : Int),.int .i64 0]))))
theorem Fm.four_of {f : List UInt8} (h : 4 ≤ f.length) : ∃ a b c d : UInt8,f.take 4 = [a,b,c,d] ∧ f[0]? = some a ∧ f[1]? = some b ∧ f[2]? = some c ∧ f[3]? = some d := by
 match f,h with
 | a :: b :: c :: d :: l,_ => exact ⟨a,b,c,d,rfl,rfl,rfl,rfl,rfl⟩
theorem Fm.byte {w : World} {b off n cap : Nat} {bs : List UInt8} (h : By.Ls w (some ⟨b,off,none⟩) n cap bs) {i : Nat} {x : UInt8} (hx : bs[i]? = some x) : w.cell? ⟨b,off + i,none⟩ = some (.int .u8 (x.toNat : Int)) := by
 obtain ⟨hl,e⟩ := List.getElem?_eq_some_iff.1 hx
 have := h.row i hl
 rw [e] at this
 exact this
theorem Fm.part {w : World} {b off n cap : Nat} {bs : List UInt8} (h : By.Ls w (some ⟨b,off,none⟩) n cap bs) (k m c : Nat) (hk : k + m ≤ n) (hc : m ≤ c) (hr : c ≤ 9223372036854775807) : By.Ls w (some ⟨b,off + k,none⟩) m c ((bs.drop k).take m) := by
 have hl := h.len
 refine ⟨by rw [List.length_take,List.length_drop]; omega,hc,hr,(fun z => by cases z),.inr ⟨b,off + k,rfl,fun i hi => ?_⟩⟩
 rw [List.length_take,List.length_drop] at hi
 have h1 := h.row (k + i) (by omega)
 rw [List.getElem_take,List.getElem_drop,Nat.add_assoc]
 exact h1
set_option maxHeartbeats 8000000 in
theorem fm_next (ao : Option Addr) (n cap : Nat) (bs : List UInt8) (i : Int) (w : World) (hB : By.Ls w ao n cap bs) (hn : n ≤ 140737488355328) (hi : Fit i) :
  Calls Tryz.prog 127 #[.slice ao n cap,.int .i64 i] w (Fm.NextE w bs i) := by
 have hbl := hB.len
 have b1 := hB.fits
 have b2 := hB.reach
 obtain ⟨i1,i2⟩ := hi
 by_cases hout : i < 0 ∨ (n : Int) < i
 ·
  have HE : Hid (Fm.NextE w bs i (.returned (.tuple #[.slice none 0 0,.int .i64 0,.int .i64 1])) w) := Lib.hid ⟨Below.refl _ _,.inl ⟨by rw [← hbl]; exact hout,rfl⟩⟩
  clear hB hbl
  by_cases h0 : i < 0
  ·
   go_enter Tryz.func127,Tryz.ntmps127
   go_wp2
   go_ret3
   exact HE.out
  ·
   have h1 : (n : Int) < i := hout.resolve_left h0
   clear hout
   go_enter Tryz.func127,Tryz.ntmps127
   go_wp2
   go_ret3
   exact HE.out
 obtain ⟨k,rfl⟩ : ∃ k : Nat,i = (k : Int) := ⟨i.toNat,by omega⟩
 have hk : k ≤ n := by omega
 have hk0 : ¬ (k : Int) < 0 := by omega
 have hk1 : ¬ (n : Int) < (k : Int) := by omega
 have hfl : (bs.drop k).length = n - k := by rw [List.length_drop,hbl]
 obtain ⟨fl,hflv⟩ : ∃ fl,n - k = fl := ⟨_,rfl⟩
 rw [hflv] at hfl
 have HBad : Hid (∀ er : Nat,er ≠ 0 → (Fm.nextF (bs.drop k)).2.2 = er → ∀ u,Below w.heap.size w u → Fm.NextE w bs (k : Int) (.returned (.tuple #[.slice none 0 0,.int .i64 0,.int .i64 (er : Int)])) u) := Lib.hid fun er h0 he u hu => ⟨hu,.inr ⟨k,rfl,by omega,.inl ⟨by rw [he]; exact h0,by rw [he]⟩⟩⟩
 clear hout
 by_cases hsh : fl < 4
 ·
  have HE := Lib.hid (HBad.out 3 (by omega) (by unfold Fm.nextF; rw [if_pos (by omega)]) w (Below.refl _ _))
  have hsh' : (fl : Int) < 4 := by omega
  clear hB hbl HBad hfl
  by_cases hc : cap = k
  ·
   subst hc
   go_enter Tryz.func127,Tryz.ntmps127
   go_wp2
   go_ret3
   exact HE.out
  ·
   go_enter Tryz.func127,Tryz.ntmps127
   go_wp2
   go_ret3
   exact HE.out
 ·
  have hck : ¬ cap = k := by omega
  have hsh' : ¬ (fl : Int) < 4 := by omega
  obtain ⟨b,off,rfl⟩ := hB.at (by omega)
  obtain ⟨xa,xb,xc,xd,ht4,g0,g1,g2,g3⟩ := Fm.four_of (f := bs.drop k) (by omega)
  rw [List.getElem?_drop] at g0 g1 g2 g3
  have r0 := Fm.byte hB g0
  have r1 := Fm.byte hB g1
  have r2 := Fm.byte hB g2
  have r3 := Fm.byte hB g3
  obtain ⟨fc,hfc⟩ : ∃ fc,cap - k = fc := ⟨_,rfl⟩
  have CR := Lib.hid (fm_read b (off + k) fl fc xa xb xc xd w (by rw [Nat.add_zero] at r0; exact r0) (by rw [← Nat.add_assoc] at r1; exact r1) (by rw [← Nat.add_assoc] at r2; exact r2) (by rw [← Nat.add_assoc] at r3; exact r3) (by omega) (by omega) (by omega))
  rw [← ht4] at CR
  obtain ⟨nv,hnv⟩ : ∃ nv,Crc.le ((bs.drop k).take 4) = nv := ⟨_,rfl⟩
  rw [hnv] at CR
  have hnvb : nv < 4294967296 := by
   have h1 := Crc.le_lt ((bs.drop k).take 4)
   rw [List.length_take,hfl,Nat.min_eq_left (by omega),hnv,show 2 ^ (8 * 4) = 4294967296 from rfl] at h1
   exact h1
  clear r0 r1 r2 r3 g0 g1 g2 g3 ht4
  by_cases hz : nv = 0 ∨ 131072 < nv
  ·
   have HE := Lib.hid (HBad.out 4 (by omega) (by unfold Fm.nextF; rw [if_neg (by omega),if_pos (by rw [hnv]; exact hz)]) w (Below.refl _ _))
   clear hB hbl HBad hfl hnv
   by_cases h0 : nv = 0
   ·
    subst h0
    go_enter Tryz.func127,Tryz.ntmps127
    go_wp2_with (go_at_call 162; refine CR.out.mono ?_; rintro e u ⟨rfl,hu⟩; rw [hu]; clear hu u CR)
    go_ret3
    exact HE.out
   ·
    have h0' : ((nv : Int) == 0) = false := by
     rw [beq_eq_false_iff_ne]
     omega
    have h1' : (131072 : Int) < (nv : Int) := by omega
    clear hz
    go_enter Tryz.func127,Tryz.ntmps127
    go_wp2_with (go_at_call 162; refine CR.out.mono ?_; rintro e u ⟨rfl,hu⟩; rw [hu]; clear hu u CR)
    go_ret3
    exact HE.out
  have h0' : ((nv : Int) == 0) = false := by
   rw [beq_eq_false_iff_ne]
   omega
  have h1' : ¬ (131072 : Int) < (nv : Int) := by omega
  obtain ⟨bd,hbd⟩ : ∃ bd,4 + nv = bd := ⟨_,rfl⟩
  have hbi : (4 : Int) + (nv : Int) = (bd : Int) := by omega
  by_cases hs2 : fl < nv + 8
  ·
   have HE := Lib.hid (HBad.out 3 (by omega) (by unfold Fm.nextF; rw [if_neg (by omega),if_neg (by rw [hnv]; exact hz),if_pos (by rw [hnv,hfl]; exact hs2)]) w (Below.refl _ _))
   have hs2' : (fl : Int) < (bd : Int) + 4 := by omega
   clear hB hbl HBad hfl hnv hz
   go_enter Tryz.func127,Tryz.ntmps127
   go_wp2_with (go_at_call 162; refine CR.out.mono ?_; rintro e u ⟨rfl,hu⟩; rw [hu]; clear hu u CR)
   go_ret3
   exact HE.out
  ·
   have hs2' : ¬ (fl : Int) < (bd : Int) + 4 := by omega
   obtain ⟨ya,yb,yc,yd,ht5,g0,g1,g2,g3⟩ := Fm.four_of (f := (bs.drop k).drop bd) (by rw [List.length_drop]; omega)
   have hdd : (bs.drop k).drop bd = bs.drop (k + bd) := List.drop_drop
   rw [hdd,List.getElem?_drop] at g0 g1 g2 g3
   obtain ⟨sm,hsm⟩ : ∃ sm,Crc.le (((bs.drop k).drop bd).take 4) = sm := ⟨_,rfl⟩
   obtain ⟨tl2,htl2⟩ : ∃ tl2,fl - bd = tl2 := ⟨_,rfl⟩
   obtain ⟨tc2,htc2⟩ : ∃ tc2,fc - bd = tc2 := ⟨_,rfl⟩
   have HCR2 : Hid (∀ u,Below w.heap.size w u → Calls Tryz.prog 162 #[.slice (some ⟨b,off + k + bd,none⟩) tl2 tc2] u fun e w' => e = .returned (.int .u32 (sm : Nat)) ∧ w' = u) := Lib.hid fun u hu => by
    have hBu := hB.below hu
    have r0 := Fm.byte hBu g0
    have r1 := Fm.byte hBu g1
    have r2 := Fm.byte hBu g2
    have r3 := Fm.byte hBu g3
    have := fm_read b (off + k + bd) tl2 tc2 ya yb yc yd u (by rw [Nat.add_zero,← Nat.add_assoc] at r0; exact r0) (by rw [← Nat.add_assoc,← Nat.add_assoc] at r1; exact r1) (by rw [← Nat.add_assoc,← Nat.add_assoc] at r2; exact r2) (by rw [← Nat.add_assoc,← Nat.add_assoc] at r3; exact r3) (by omega) (by omega) (by omega)
    rw [← ht5,hsm] at this
    exact this
   obtain ⟨sv,hsv⟩ : ∃ sv,Crc.on 0 ((bs.drop k).take bd) = sv := ⟨_,rfl⟩
   have hpart := Fm.part hB k bd fc (by omega) (by omega) (by omega)
   have hseg : Seg w.drew (some ⟨b,off + k,none⟩) ((bs.drop k).take bd) := hpart.seg
   have CO := Lib.hid (of_one ((bs.drop k).take bd) (some ⟨b,off + k,none⟩) bd fc w.heap.size w.drew rfl hseg hpart.len (by omega))
   rw [hsv] at CO
   have HU1 : Hid (Below w.heap.size w (w.drew.alloc (.cells #[.slice (some ⟨b,off + k,none⟩) bd fc] 59))) := Lib.hid (((Below.refl w.heap.size w).drew).alloc (Nat.le_refl _) _)
   have CR2 := Lib.hid (HCR2.out _ HU1.out)
   have hcb : ¬ fc = bd := by omega
   have hbf : bd ≤ fl := by omega
   have hbc : bd ≤ fc := by omega
   have hfc4 : ¬ fc = 4 := by omega
   have h4b : 4 ≤ bd := by omega
   have hnx : (Fm.nextF (bs.drop k)) = if sv ≠ sm then ([],0,6) else (((bs.drop k).drop 4).take nv,nv + 8,0) := by
    unfold Fm.nextF
    rw [if_neg (by omega),if_neg (by rw [hnv]; exact hz),if_neg (by rw [hnv,hfl]; exact hs2),hnv,hbd,hsv,hsm]
   by_cases heq : sv = sm
   ·
    subst heq
    rw [if_neg (fun z => z rfl)] at hnx
    have hp2 := Fm.part hB (k + 4) nv (fc - 4) (by omega) (by omega) (by omega)
    obtain ⟨f4,hf4⟩ : ∃ f4,fc - 4 = f4 := ⟨_,rfl⟩
    have hb4 : bd - 4 = nv := by omega
    have HCC : Hid (∀ u,Below w.heap.size w u → Calls Tryz.prog 164 #[.slice (some ⟨b,off + k + 4,none⟩) nv f4] u fun e w' => ∃ g,e = .returned (.slice (some ⟨g,0,none⟩) nv nv) ∧ Fm.NextE w bs (k : Int) (.returned (.tuple #[.slice (some ⟨g,0,none⟩) nv nv,.int .i64 ((k : Int) + (bd : Int) + 4),.int .i64 0])) w') := Lib.hid fun u hu => by
     have hq := hp2.below hu
     rw [hf4,← Nat.add_assoc] at hq
     refine (fm_copied _ _ _ _ u hq (by omega)).mono ?_
     rintro e w' ⟨g,rfl,h1,h2,h3⟩
     refine ⟨g,rfl,bchain hu h3,.inr ⟨k,rfl,by omega,.inr ⟨by rw [hnx],g,Nat.le_trans hu.size h2,?_,?_⟩⟩⟩
     ·
      rw [hnx]
      simp only [List.drop_drop]
      exact h1
     ·
      rw [hnx]
      have hl2 : (((bs.drop k).drop 4).take nv).length = nv := by
       rw [List.length_take,List.length_drop,hfl]
       omega
      simp only [hl2]
      have e5 : ((k + (nv + 8) : Nat) : Int) = (k : Int) + (bd : Int) + 4 := by omega
      rw [e5]
    have CC := Lib.hid (HCC.out _ HU1.out)
    clear hB hbl HBad hfl hnv hz hsv hsm hnx hp2 hpart hseg HCR2 HCC ht5 g0 g1 g2 g3 hdd hbd hs2 HU1
    go_enter Tryz.func127,Tryz.ntmps127
    go_wp2_with (go_at_call 162; refine CR.out.mono ?_; rintro e u ⟨rfl,hu⟩; rw [hu]; clear hu u CR)
    go_region_with (first | (go_at_call 163; refine CO.out.mono ?_; rintro e u ⟨rfl,hu⟩; rw [hu]; clear hu u CO) | (go_at_call 162; refine CR2.out.mono ?_; rintro e u ⟨rfl,hu⟩; rw [hu]; clear hu u CR2))
    all_goals
     go_wp2_with (go_at_call 164; refine CC.out.mono ?_; rintro e W6 ⟨g,rfl,h6⟩; have HF := Lib.hid h6; clear h6 CC)
     go_ret3
     exact HF.out
   ·
    rw [if_pos heq] at hnx
    have hne : ((sv : Int) == (sm : Int)) = false := by
     rw [beq_eq_false_iff_ne]
     omega
    have hne2 : ((sv : Int) != (sm : Int)) = true := by rw [bne,hne]; rfl
    have hne3 : ¬ (sv : Int) = (sm : Int) := beq_eq_false_iff_ne.1 hne
    have HE := Lib.hid (HBad.out 6 (by omega) (by rw [hnx]) _ HU1.out)
    clear hB hbl HBad hfl hnv hz hsv hsm hnx hpart hseg HCR2 ht5 g0 g1 g2 g3 hdd hbd hs2 HU1
    go_enter Tryz.func127,Tryz.ntmps127
    go_wp2_with (go_at_call 162; refine CR.out.mono ?_; rintro e u ⟨rfl,hu⟩; rw [hu]; clear hu u CR)
    go_region_with (first | (go_at_call 163; refine CO.out.mono ?_; rintro e u ⟨rfl,hu⟩; rw [hu]; clear hu u CO) | (go_at_call 162; refine CR2.out.mono ?_; rintro e u ⟨rfl,hu⟩; rw [hu]; clear hu u CR2))
    all_goals
     go_wp2
     go_ret3
     exact HE.out
end Go.Proofs.YtlmjeackfepllaaGreatDoor
namespace Go.Proofs.YtlmjeackfepllaaGreatDoor.Et
open Go.RowKit
open Mem
structure T where
 term : Int
 mem : Int
 data : ByteArray
def val (r : T) : Value := .agg #[.int .i64 r.term,.int .i64 r.mem,.string r.data]
def Short (r : T) : Prop := Fit r.term ∧ Fit r.mem ∧ r.data.size ≤ 140737488355328
def box (w : World) (r : T) : World := w.alloc (.cells #[.int .i64 r.term,.int .i64 r.mem,.string r.data] 36)
def C (u : World) (b : Nat) (r : T) : Prop :=
 u.cell? ⟨b,0,none⟩ = some (.int .i64 r.term) ∧ u.cell? ⟨b,1,none⟩ = some (.int .i64 r.mem) ∧ u.cell? ⟨b,2,none⟩ = some (.string r.data)
theorem C.below {u v : World} {b : Nat} {r : T} (h : C u b r) (k : Below u.heap.size u v) : C v b r := by
 obtain ⟨h0,h1,h2⟩ := h
 have hl := cell_lt h0
 unfold C
 rw [(bcell k).1 _ _ hl,(bcell k).1 _ _ hl,(bcell k).1 _ _ hl]
 exact ⟨h0,h1,h2⟩
theorem c_box (w : World) (r : T) : C (box w r) w.heap.size r := by
 unfold box C
 simp [go_sem]
theorem box_size (w : World) (r : T) : (box w r).heap.size = w.heap.size + 1 := by
 unfold box
 simp
theorem below_own (w : World) (r : T) : Below w.heap.size w (box w r) := (Below.refl _ _).alloc (Nat.le_refl _) _
theorem boxed1 (w : World) (a : T) : ∃ W,w.alloc (.cells #[.int .i64 a.term,.int .i64 a.mem,.string a.data] 36) = W ∧ Below w.heap.size w W ∧ C W w.heap.size a :=
 ⟨_,rfl,below_own w a,c_box w a⟩
theorem boxed2 (w : World) (a b : T) : ∃ W,(w.alloc (.cells #[.int .i64 a.term,.int .i64 a.mem,.string a.data] 36)).alloc (.cells #[.int .i64 b.term,.int .i64 b.mem,.string b.data] 36) = W ∧
  Below w.heap.size w W ∧ C W w.heap.size a ∧ C W (w.heap.size + 1) b := by
 refine ⟨_,rfl,((below_own w a).trans ((below_own (box w a) b).mono (below_own w a).size)),(c_box w a).below (below_own _ b),?_⟩
 have h := c_box (box w a) b
 rw [box_size] at h
 exact h
end Go.Proofs.YtlmjeackfepllaaGreatDoor.Et
namespace Go.Proofs.YtlmjeackfepllaaGreatDoor.Wl
open Pk
structure H where
 term : Int
 vote : Int
 base : Int
 bt : Int
 mem : Int
 snap : ByteArray
 log : List Et.T
def H.with (h : H) (l : List Et.T) : H := ⟨h.term,h.vote,h.base,h.bt,h.mem,h.snap,l⟩
def H.bare (h : H) : H := ⟨h.term,h.vote,h.base,h.bt,h.mem,.empty,h.log⟩
def within (n lo hi : Int) : Bool := decide (lo ≤ n) && decide (n ≤ hi)
def top : Int := 1099511627776
def headed (h : H) : Bool := within h.term 0 top && (within h.vote (-1) 6 && (within h.base 0 top && (within h.bt 0 h.term && (((h.bt == 0) == (h.base == 0)) && within h.mem 1 127))))
def last (h : H) : Int := h.base + (h.log.length : Int)
def lastTerm (h : H) : Int := (h.log.getLast?.map Et.T.term).getD h.bt
def fits (h : H) (e : Et.T) : Bool := decide (h.log.length < 200) && (decide (last h < top) && (within e.term (max 1 (lastTerm h)) h.term && (within e.mem 0 127 && (decide (e.data.size ≤ 1100) && ((e.mem == 0) || decide (e.data.size = 0))))))
def more (h : H) : List Et.T → Bool
 | [] => true
 | e :: l => fits h e && more (h.with (h.log ++ [e])) l
def snapOk (h : H) : Bool := (decide (h.snap.size = 0) == (h.base == 0)) && decide (h.snap.size ≤ 65536)
def right (h : H) : Bool := headed h && (snapOk h && more (h.with []) h.log)
inductive Rec where
 | beg (term vote base bt mem : Int)
 | ent (e : Et.T)
 | rdy
 | vot (term vote : Int)
 | cut (n : Int)
def Rec.Ok : Rec → Prop
 | .beg t v b c m => Fit t ∧ Fit v ∧ Fit b ∧ Fit c ∧ Fit m
 | .ent e => Fit e.term ∧ Fit e.mem ∧ e.data.size ≤ 1100
 | .rdy => True
 | .vot t v => Fit t ∧ Fit v
 | .cut n => Fit n
def pay : Rec → List UInt8
 | .beg t v b c m => nm 1 ++ (nm t ++ (nm v ++ (nm b ++ (nm c ++ nm m))))
 | .ent e => nm 2 ++ (nm e.term ++ (nm e.mem ++ tx e.data))
 | .rdy => nm 3
 | .vot t v => nm 4 ++ (nm t ++ nm v)
 | .cut n => nm 5 ++ nm n
def fin (bs : List UInt8) (s : St) (r : Rec) : Option Rec := if (rEnd bs s).1 = 0 then some r else none
def parseB (bs : List UInt8) (s : St) : Option Rec :=
 fin bs (rNum bs (rNum bs (rNum bs (rNum bs (rNum bs s).2).2).2).2).2 (.beg (rNum bs s).1 (rNum bs (rNum bs s).2).1 (rNum bs (rNum bs (rNum bs s).2).2).1 (rNum bs (rNum bs (rNum bs (rNum bs s).2).2).2).1 (rNum bs (rNum bs (rNum bs (rNum bs (rNum bs s).2).2).2).2).1)
def parseE (bs : List UInt8) (s : St) : Option Rec :=
 fin bs (rText bs 1100 (rNum bs (rNum bs s).2).2).2 (.ent ⟨(rNum bs s).1,(rNum bs (rNum bs s).2).1,(rText bs 1100 (rNum bs (rNum bs s).2).2).1⟩)
def parseV (bs : List UInt8) (s : St) : Option Rec := fin bs (rNum bs (rNum bs s).2).2 (.vot (rNum bs s).1 (rNum bs (rNum bs s).2).1)
def parseC (bs : List UInt8) (s : St) : Option Rec := fin bs (rNum bs s).2 (.cut (rNum bs s).1)
def parse (bs : List UInt8) : Option Rec :=
 if (rNum bs s0).1 = 1 then parseB bs (rNum bs s0).2 else if (rNum bs s0).1 = 2 then parseE bs (rNum bs s0).2 else if (rNum bs s0).1 = 3 then fin bs (rNum bs s0).2 .rdy
 else if (rNum bs s0).1 = 4 then parseV bs (rNum bs s0).2 else if (rNum bs s0).1 = 5 then parseC bs (rNum bs s0).2 else none
theorem fit_small {n : Int} (h : 0 ≤ n) (k : n ≤ 1000) : Fit n := ⟨by omega,by omega⟩
theorem fin_ok {bs : List UInt8} {s : St} {r : Rec} (h : Rem bs s []) : fin bs s r = some r := if_pos (rem_end h)
theorem parse_pay {r : Rec} (h : r.Ok) : parse (pay r) = some r := by
 have h0 := rem_start (pay r)
 unfold parse
 cases r with
 | beg t v b c m =>
  obtain ⟨k1,k2,k3,k4,k5⟩ := h
  obtain ⟨e0,h1⟩ := fwd_num (n := 1) h0 (fit_small (by omega) (by omega))
  rw [if_pos e0]
  obtain ⟨e1,h2⟩ := fwd_num h1 k1
  obtain ⟨e2,h3⟩ := fwd_num h2 k2
  obtain ⟨e3,h4⟩ := fwd_num h3 k3
  obtain ⟨e4,h5⟩ := fwd_num h4 k4
  obtain ⟨e5,h6⟩ := fwd_num (r := []) (by rw [List.append_nil]; exact h5) k5
  unfold parseB
  rw [fin_ok h6,e1,e2,e3,e4,e5]
 | ent e =>
  obtain ⟨k1,k2,k3⟩ := h
  obtain ⟨e0,h1⟩ := fwd_num (n := 2) h0 (fit_small (by omega) (by omega))
  rw [if_neg (by omega),if_pos e0]
  obtain ⟨e1,h2⟩ := fwd_num h1 k1
  obtain ⟨e2,h3⟩ := fwd_num h2 k2
  obtain ⟨e3,h4⟩ := fwd_text (most := 1100) (r := []) (by rw [List.append_nil]; exact h3) (by omega) (by omega)
  unfold parseE
  rw [fin_ok h4,e1,e2,e3]
 | rdy =>
  obtain ⟨e0,h1⟩ := fwd_num (n := 3) (r := []) (by rw [List.append_nil]; exact h0) (fit_small (by omega) (by omega))
  rw [if_neg (by omega),if_neg (by omega),if_pos e0,fin_ok h1]
 | vot t v =>
  obtain ⟨k1,k2⟩ := h
  obtain ⟨e0,h1⟩ := fwd_num (n := 4) h0 (fit_small (by omega) (by omega))
  rw [if_neg (by omega),if_neg (by omega),if_neg (by omega),if_pos e0]
  obtain ⟨e1,h2⟩ := fwd_num h1 k1
  obtain ⟨e2,h3⟩ := fwd_num (r := []) (by rw [List.append_nil]; exact h2) k2
  unfold parseV
  rw [fin_ok h3,e1,e2]
 | cut n =>
  obtain ⟨e0,h1⟩ := fwd_num (n := 5) h0 (fit_small (by omega) (by omega))
  rw [if_neg (by omega),if_neg (by omega),if_neg (by omega),if_neg (by omega),if_pos e0]
  obtain ⟨e1,h2⟩ := fwd_num (r := []) (by rw [List.append_nil]; exact h1) h
  unfold parseC
  rw [fin_ok h2,e1]
structure Sg where
 h : H
 begun : Bool
 ready : Bool
def empty : Sg := ⟨⟨0,-1,0,0,0,.empty,[]⟩,false,false⟩
def Sg.with (s : Sg) (h : H) : Sg := ⟨h,s.begun,s.ready⟩
def beginS (s : Sg) (h : H) : Option Sg := if s.begun = true then none else if headed h = false then none else some ⟨h,true,s.ready⟩
def addS (s : Sg) (e : Et.T) : Option Sg := if s.begun = false then none else if fits s.h e = false then none else some (s.with (s.h.with (s.h.log ++ [e])))
def closeS (s : Sg) : Option Sg := if s.begun = false then none else if s.ready = true then none else some ⟨s.h,s.begun,true⟩
def H.vote' (h : H) (t v : Int) : H := ⟨t,v,h.base,h.bt,h.mem,h.snap,h.log⟩
def voteS (s : Sg) (t v : Int) : Option Sg :=
 if s.ready = false then none else if t < s.h.term then none else if t = s.h.term ∧ s.h.vote ≠ -1 then none else if headed (s.h.vote' t v) = false then none else some (s.with (s.h.vote' t v))
def cutS (s : Sg) (n : Int) : Option Sg := if s.ready = false then none else if within n s.h.base (last s.h) = false then none else some (s.with (s.h.with (s.h.log.take (n - s.h.base).toNat)))
def step (s : Sg) : Rec → Option Sg
 | .beg t v b c m => beginS s ⟨t,v,b,c,m,.empty,[]⟩
 | .ent e => addS s e
 | .rdy => closeS s
 | .vot t v => voteS s t v
 | .cut n => cutS s n
def take (s : Sg) (p : List UInt8) : Option Sg := (parse p).bind (step s)
def readF : Nat → Sg → List UInt8 → Sg × Nat
 | 0,s,_ => (s,0)
 | k + 1,s,bs => if (Fm.nextF bs).2.2 ≠ 0 then (s,0) else match take s (Fm.nextF bs).1 with
  | none => (s,0)
  | some s' => ((readF k s' (bs.drop (Fm.nextF bs).2.1)).1,(Fm.nextF bs).2.1 + (readF k s' (bs.drop (Fm.nextF bs).2.1)).2)
def read (bs : List UInt8) : Sg × Nat := readF (bs.length + 1) empty bs
def runAll (s : Sg) : List (List UInt8) → Sg
 | [] => s
 | p :: l => runAll ((take s p).getD s) l
def frames : List (List UInt8) → List UInt8
 | [] => []
 | p :: l => Fm.frame p ++ frames l
def ents (l : List Et.T) : List Rec := l.map .ent
def whole (h : H) : List Rec := .beg h.term h.vote h.base h.bt h.mem :: (ents h.log ++ [.rdy])
def begun : List Et.T → List Et.T → Nat
 | a :: l,b :: m => if a.term = b.term ∧ a.mem = b.mem ∧ a.data = b.data then begun l m + 1 else 0
 | _,_ => 0
def change (was h : H) : List Rec :=
 (if h.term ≠ was.term ∨ h.vote ≠ was.vote then [.vot h.term h.vote] else []) ++ ((if begun was.log h.log < was.log.length then [.cut (h.base + (begun was.log h.log : Int))] else []) ++ ents (h.log.drop (begun was.log h.log)))
def pays (l : List Rec) : List (List UInt8) := l.map pay
end Go.Proofs.YtlmjeackfepllaaGreatDoor.Wl
namespace Go.Proofs.YtlmjeackfepllaaGreatDoor.Et
open Go.RowKit
open Mem
structure At (u : World) (b o : Nat) (r : T) : Prop where
 c0 : u.cell? ⟨b,o,none⟩ = some (.int .i64 r.term)
 c1 : u.cell? ⟨b,o + 1,none⟩ = some (.int .i64 r.mem)
 c2 : u.cell? ⟨b,o + 2,none⟩ = some (.string r.data)
theorem At.below {u v : World} {b o : Nat} {r : T} (h : At u b o r) (k : Below u.heap.size u v) : At v b o r := by
 have hl := cell_lt h.c0
 exact ⟨by rw [(bcell k).1 _ _ hl]; exact h.c0,by rw [(bcell k).1 _ _ hl]; exact h.c1,by rw [(bcell k).1 _ _ hl]; exact h.c2⟩
def Seg (w : World) (ao : Option Addr) (rs : List T) : Prop := rs = [] ∨ ∃ b off,ao = some ⟨b,off,none⟩ ∧ ∀ (k : Nat) (hk : k < rs.length),At w b (off + k * 3) rs[k]
theorem Seg.below {w v : World} {ao : Option Addr} {rs : List T} (h : Seg w ao rs) (k : Below w.heap.size w v) : Seg v ao rs := by
 rcases h with h | ⟨b,off,e,h⟩
 · exact .inl h
 · exact .inr ⟨b,off,e,fun i hi => (h i hi).below k⟩
structure Ls (w : World) (ao : Option Addr) (n cap : Nat) (rs : List T) : Prop where
 len : n = rs.length
 fits : n ≤ cap
 reach : cap ≤ 9223372036854775807
 nil : ao = none → cap = 0
 seg : Seg w ao rs
 short : ∀ r ∈ rs,Short r
theorem Ls.below {w v : World} {ao : Option Addr} {n cap : Nat} {rs : List T} (h : Ls w ao n cap rs) (k : Below w.heap.size w v) : Ls v ao n cap rs :=
 ⟨h.len,h.fits,h.reach,h.nil,h.seg.below k,h.short⟩
theorem Ls.at {w : World} {ao : Option Addr} {n cap : Nat} {rs : List T} (h : Ls w ao n cap rs) (hn : 0 < n) : ∃ b off,ao = some ⟨b,off,none⟩ := by
 rcases h.seg with e | ⟨b,off,e,_⟩
 ·
  have := h.len
  rw [e] at this
  simp at this
  omega
 · exact ⟨b,off,e⟩
theorem Ls.row {w : World} {b off n cap : Nat} {rs : List T} (h : Ls w (some ⟨b,off,none⟩) n cap rs) (k : Nat) (hk : k < rs.length) : At w b (off + k * 3) rs[k] := by
 rcases h.seg with e | ⟨b',off',e,hs⟩
 ·
  subst e
  simp at hk
 ·
  cases e
  exact hs k hk
theorem ls_nil (w : World) : Ls w none 0 0 [] := ⟨rfl,Nat.le_refl _,by omega,fun _ => rfl,.inl rfl,by simp⟩
theorem und : Tryz.prog.underlying 28 = some (.slice (Tryz.prog.elem 28)) := by kernel_rfl
theorem size (u : World) : (sizeOf (Tryz.prog.elem 28)).run Tryz.prog u = .ok 3 u := by
 have h : (Tryz.prog.info? (Tryz.prog.elem 28)).map (·.size) = some 3 := by kernel_rfl
 obtain ⟨i,hi,hs⟩ := Option.map_eq_some_iff.1 h
 simp [sizeOf,typeInfo,hi,hs]
theorem Ls.to {w : World} {ao : Option Addr} {n cap : Nat} {rs : List T} (h : Ls w ao n cap rs) (k : Nat) (hk : k ≤ n) :
  (∀ u,(Instr.slice 28 (.slice ao n cap) none (some (.int .i64 (k : Int))) none).run Tryz.prog u = .ok (.slice ao k cap) u) ∧ Ls w ao k cap (rs.take k) := by
 have hl := h.len
 have hf := h.fits
 refine ⟨fun u => ?_,⟨by rw [List.length_take]; omega,by omega,h.reach,h.nil,?_,fun r hr => h.short r (List.mem_of_mem_take hr)⟩⟩
 ·
  rw [run_slice_h u 28 ao n cap und .i64 k (by omega) (by omega),size]
  have e : Option.map (fun x : Addr => x.add 0) ao = ao := by cases ao <;> simp [Addr.add]
  simp [Result.andThen,sliced,e]
 ·
  rcases h.seg with e | ⟨b,off,e,hc⟩
  · exact .inl (by rw [e]; simp)
  ·
   refine .inr ⟨b,off,e,fun j hj => ?_⟩
   rw [List.length_take] at hj
   rw [List.getElem_take]
   exact hc j (by omega)
theorem Ls.from {w : World} {ao : Option Addr} {n cap : Nat} {rs : List T} (h : Ls w ao n cap rs) (k : Nat) (hk : k ≤ n) :
  ∃ ao2 cap2,(∀ u,(Instr.slice 28 (.slice ao n cap) (some (.int .i64 (k : Int))) none none).run Tryz.prog u = .ok (.slice ao2 (n - k) cap2) u) ∧ Ls w ao2 (n - k) cap2 (rs.drop k) := by
 have hl := h.len
 have hf := h.fits
 refine ⟨if cap = k then ao else ao.map (·.add (k * 3)),cap - k,fun u => ?_,⟨by rw [List.length_drop]; omega,by omega,by have := h.reach; omega,?_,?_,fun r hr => h.short r (List.mem_of_mem_drop hr)⟩⟩
 ·
  rw [run_slice_l u 28 ao n cap und .i64 k (by omega) (by omega),size]
  simp [Result.andThen,sliced]
 ·
  by_cases e : cap = k
  · omega
  ·
   rw [if_neg e]
   cases ao with
   | none => have := h.nil rfl; omega
   | some a => exact fun k => by cases k
 ·
  by_cases hkn : k = n
  · exact .inl (List.drop_eq_nil_of_le (by omega))
  ·
   rcases h.seg with e | ⟨b,off,rfl,hc⟩
   · exact .inl (by rw [e]; simp)
   ·
    refine .inr ⟨b,off + k * 3,?_,fun j hj => ?_⟩
    ·
     rw [if_neg (by omega)]
     unfold Addr.add
     simp only [Option.map_some,Option.some.injEq]
     split
     ·
      rename_i e
      rw [e]
      rfl
     · rfl
    ·
     rw [List.length_drop] at hj
     rw [List.getElem_drop,show off + k * 3 + j * 3 = off + (k + j) * 3 by omega]
     exact hc (k + j) (by omega)
end Go.Proofs.YtlmjeackfepllaaGreatDoor.Et
namespace Go.Proofs.YtlmjeackfepllaaGreatDoor.Mem
structure Sl where
 ao : Option Addr
 n : Nat
 cap : Nat
end Go.Proofs.YtlmjeackfepllaaGreatDoor.Mem
namespace Go.Proofs.YtlmjeackfepllaaGreatDoor.Hd
open Go.RowKit
open Mem
structure T where
 term : Int
 vote : Int
 base : Int
 bt : Int
 mem : Int
 snap : ByteArray
 log : Sl
def val (r : T) : Value := .agg #[.int .i64 r.term,.int .i64 r.vote,.int .i64 r.base,.int .i64 r.bt,.int .i64 r.mem,.string r.snap,.slice r.log.ao r.log.n r.log.cap]
def Short (r : T) : Prop := Fit r.term ∧ Fit r.vote ∧ Fit r.base ∧ Fit r.bt ∧ Fit r.mem ∧ r.snap.size ≤ 140737488355328
def box (w : World) (r : T) : World := w.alloc (.cells #[.int .i64 r.term,.int .i64 r.vote,.int .i64 r.base,.int .i64 r.bt,.int .i64 r.mem,.string r.snap,.slice r.log.ao r.log.n r.log.cap] 30)
def C (u : World) (b : Nat) (r : T) : Prop :=
 u.cell? ⟨b,0,none⟩ = some (.int .i64 r.term) ∧ u.cell? ⟨b,1,none⟩ = some (.int .i64 r.vote) ∧ u.cell? ⟨b,2,none⟩ = some (.int .i64 r.base) ∧ u.cell? ⟨b,3,none⟩ = some (.int .i64 r.bt) ∧ u.cell? ⟨b,4,none⟩ = some (.int .i64 r.mem) ∧ u.cell? ⟨b,5,none⟩ = some (.string r.snap) ∧ u.cell? ⟨b,6,none⟩ = some (.slice r.log.ao r.log.n r.log.cap)
theorem C.below {u v : World} {b : Nat} {r : T} (h : C u b r) (k : Below u.heap.size u v) : C v b r := by
 obtain ⟨h0,h1,h2,h3,h4,h5,h6⟩ := h
 have hl := cell_lt h0
 unfold C
 rw [(bcell k).1 _ _ hl,(bcell k).1 _ _ hl,(bcell k).1 _ _ hl,(bcell k).1 _ _ hl,(bcell k).1 _ _ hl,(bcell k).1 _ _ hl,(bcell k).1 _ _ hl]
 exact ⟨h0,h1,h2,h3,h4,h5,h6⟩
theorem c_box (w : World) (r : T) : C (box w r) w.heap.size r := by
 unfold box C
 simp [go_sem]
theorem box_size (w : World) (r : T) : (box w r).heap.size = w.heap.size + 1 := by
 unfold box
 simp
theorem below_own (w : World) (r : T) : Below w.heap.size w (box w r) := (Below.refl _ _).alloc (Nat.le_refl _) _
theorem boxed1 (w : World) (a : T) : ∃ W,w.alloc (.cells #[.int .i64 a.term,.int .i64 a.vote,.int .i64 a.base,.int .i64 a.bt,.int .i64 a.mem,.string a.snap,.slice a.log.ao a.log.n a.log.cap] 30) = W ∧ Below w.heap.size w W ∧ C W w.heap.size a :=
 ⟨_,rfl,below_own w a,c_box w a⟩
theorem boxed2 (w : World) (a b : T) : ∃ W,(w.alloc (.cells #[.int .i64 a.term,.int .i64 a.vote,.int .i64 a.base,.int .i64 a.bt,.int .i64 a.mem,.string a.snap,.slice a.log.ao a.log.n a.log.cap] 30)).alloc (.cells #[.int .i64 b.term,.int .i64 b.vote,.int .i64 b.base,.int .i64 b.bt,.int .i64 b.mem,.string b.snap,.slice b.log.ao b.log.n b.log.cap] 30) = W ∧
  Below w.heap.size w W ∧ C W w.heap.size a ∧ C W (w.heap.size + 1) b := by
 refine ⟨_,rfl,((below_own w a).trans ((below_own (box w a) b).mono (below_own w a).size)),(c_box w a).below (below_own _ b),?_⟩
 have h := c_box (box w a) b
 rw [box_size] at h
 exact h
end Go.Proofs.YtlmjeackfepllaaGreatDoor.Hd
namespace Go.Proofs.YtlmjeackfepllaaGreatDoor
open Go.RowKit
open Mem
open Go.Sort (grow)
theorem wl_within (n lo hi : Int) (w : World) : Calls Tryz.prog 105 #[.int .i64 n,.int .i64 lo,.int .i64 hi] w fun e w' => e = .returned (.bool (Wl.within n lo hi)) ∧ w' = w := by
 by_cases h1 : lo ≤ n
 ·
  by_cases h2 : n ≤ hi
  ·
   have HE : Hid (Wl.within n lo hi = true) := Lib.hid (by unfold Wl.within; rw [decide_eq_true h1,decide_eq_true h2]; rfl)
   go_enter Tryz.func105,Tryz.ntmps105
   go_wp2
   go_ret
   exact ⟨ret_bool HE.out.symm,rfl⟩
  ·
   have HE : Hid (Wl.within n lo hi = false) := Lib.hid (by unfold Wl.within; rw [decide_eq_false h2,Bool.and_false])
   go_enter Tryz.func105,Tryz.ntmps105
   go_wp2
   go_ret
   exact ⟨ret_bool HE.out.symm,rfl⟩
 ·
  have HE : Hid (Wl.within n lo hi = false) := Lib.hid (by unfold Wl.within; rw [decide_eq_false h1,Bool.false_and])
  go_enter Tryz.func105,Tryz.ntmps105
  go_wp2
  go_ret
  exact ⟨ret_bool HE.out.symm,rfl⟩
def Hd.h (r : Hd.T) (l : List Et.T) : Wl.H := ⟨r.term,r.vote,r.base,r.bt,r.mem,r.snap,l⟩
theorem wl_last (r : Hd.T) (l : List Et.T) (w : World) (hl : Et.Ls w r.log.ao r.log.n r.log.cap l) (hb : -1000000000000000000 ≤ r.base ∧ r.base ≤ 1000000000000000000) (hn : l.length ≤ 100000) :
  Calls Tryz.prog 106 #[Hd.val r] w fun e w' => e = .returned (.int .i64 (Wl.last (Hd.h r l))) ∧ Below w.heap.size w w' := by
 have hlen := hl.len
 have HE : Hid (Wl.last (Hd.h r l) = r.base + (r.log.n : Int)) := Lib.hid (by unfold Wl.last Hd.h; rw [hlen])
 have hn' : r.log.n ≤ 100000 := by omega
 obtain ⟨hb1,hb2⟩ := hb
 clear hl hlen hn
 obtain ⟨W,hW,hbW,hC⟩ := Hd.boxed1 w r
 have HBW := Lib.hid hbW
 unfold Hd.C at hC
 obtain ⟨a0,a1,a2,a3,a4,a5,a6⟩ := hC
 clear hbW
 unfold Hd.val
 go_enter Tryz.func106,Tryz.ntmps106
 go_wp2
 go_ret
 exact ⟨by rw [HE.out]; rfl,HBW.out⟩
theorem wl_lastTerm (r : Hd.T) (l : List Et.T) (w : World) (hl : Et.Ls w r.log.ao r.log.n r.log.cap l) :
  Calls Tryz.prog 107 #[Hd.val r] w fun e w' => e = .returned (.int .i64 (Wl.lastTerm (Hd.h r l))) ∧ Below w.heap.size w w' := by
 have hlen := hl.len
 have hf := hl.fits
 have hr := hl.reach
 obtain ⟨W,hW,hbW,hC⟩ := Hd.boxed1 w r
 have HBW := Lib.hid hbW
 by_cases h0 : r.log.n = 0
 ·
  have HE : Hid (Wl.lastTerm (Hd.h r l) = r.bt) := Lib.hid (by
   have : l = [] := List.length_eq_zero_iff.1 (by omega)
   subst this
   rfl)
  have q : ((r.log.n : Int) == 0) = true := by rw [h0]; rfl
  unfold Hd.C at hC
  obtain ⟨a0,a1,a2,a3,a4,a5,a6⟩ := hC
  clear hbW hl hlen h0
  unfold Hd.val
  go_enter Tryz.func107,Tryz.ntmps107
  go_wp2
  go_ret
  exact ⟨by rw [HE.out]; rfl,HBW.out⟩
 ·
  obtain ⟨b,off,hao⟩ := hl.at (by omega)
  have hk : r.log.n - 1 < l.length := by omega
  have hl' := hl.below hbW
  rw [hao] at hl'
  have hrow := hl'.row (r.log.n - 1) hk
  have HE : Hid (Wl.lastTerm (Hd.h r l) = l[r.log.n - 1].term) := Lib.hid (by
   show (l.getLast?.map Et.T.term).getD r.bt = _
   have e : l.getLast? = some l[r.log.n - 1] := by
    rw [List.getLast?_eq_getElem?,← hlen,List.getElem?_eq_getElem hk]
   rw [e]
   rfl)
  obtain ⟨x,hx⟩ : ∃ x,l[r.log.n - 1] = x := ⟨_,rfl⟩
  rw [hx] at hrow HE
  have q : ((r.log.n : Int) == 0) = false := beq_eq_false_iff_ne.2 (by omega)
  obtain ⟨k,hkn⟩ : ∃ k,r.log.n - 1 = k := ⟨_,rfl⟩
  have e1 : (r.log.n : Int) - 1 = (k : Int) := by omega
  have hkl : k < r.log.n := by omega
  rw [hkn] at hrow
  obtain ⟨c0,c1,c2⟩ := hrow
  unfold Hd.C at hC
  rw [hao] at hC
  obtain ⟨a0,a1,a2,a3,a4,a5,a6⟩ := hC
  unfold Hd.val
  rw [hao] at hW ⊢
  clear hbW hl hl' hlen hx h0 hk hao hkn
  go_enter Tryz.func107,Tryz.ntmps107
  go_wp2
  go_ret
  exact ⟨by rw [HE.out]; rfl,HBW.out⟩
set_option maxHeartbeats 2000000 in
theorem wl_headed (r : Hd.T) (l : List Et.T) (w : World) :
  Calls Tryz.prog 57 #[Hd.val r] w fun e w' => e = .returned (.bool (Wl.headed (Hd.h r l))) ∧ Below w.heap.size w w' := by
 obtain ⟨W,hW,hbW,hC⟩ := Hd.boxed1 w r
 have HBW := Lib.hid hbW
 unfold Hd.C at hC
 obtain ⟨a0,a1,a2,a3,a4,a5,a6⟩ := hC
 clear hbW
 have HE : Hid (Wl.headed (Hd.h r l) = (Wl.within r.term 0 1099511627776 && (Wl.within r.vote (-1) 6 && (Wl.within r.base 0 1099511627776 && (Wl.within r.bt 0 r.term && (((r.bt == 0) == (r.base == 0)) && Wl.within r.mem 1 127)))))) := Lib.hid rfl
 cases q1 : Wl.within r.term 0 1099511627776
 ·
  rw [q1,Bool.false_and] at HE
  unfold Hd.val
  go_enter Tryz.func57,Tryz.ntmps57
  go_wp2_with (go_at_call 105; refine (wl_within _ _ _ _).mono ?_; rintro e u ⟨rfl,rfl⟩; first | rw [q1])
  go_ret
  exact ⟨ret_bool HE.out.symm,HBW.out⟩
 rw [q1,Bool.true_and] at HE
 cases q2 : Wl.within r.vote (-1) 6
 ·
  rw [q2,Bool.false_and] at HE
  unfold Hd.val
  go_enter Tryz.func57,Tryz.ntmps57
  go_wp2_with (go_at_call 105; refine (wl_within _ _ _ _).mono ?_; rintro e u ⟨rfl,rfl⟩; first | rw [q1] | rw [q2])
  go_ret
  exact ⟨ret_bool HE.out.symm,HBW.out⟩
 rw [q2,Bool.true_and] at HE
 cases q3 : Wl.within r.base 0 1099511627776
 ·
  rw [q3,Bool.false_and] at HE
  unfold Hd.val
  go_enter Tryz.func57,Tryz.ntmps57
  go_wp2_with (go_at_call 105; refine (wl_within _ _ _ _).mono ?_; rintro e u ⟨rfl,rfl⟩; first | rw [q1] | rw [q2] | rw [q3])
  go_ret
  exact ⟨ret_bool HE.out.symm,HBW.out⟩
 rw [q3,Bool.true_and] at HE
 cases q4 : Wl.within r.bt 0 r.term
 ·
  rw [q4,Bool.false_and] at HE
  unfold Hd.val
  go_enter Tryz.func57,Tryz.ntmps57
  go_wp2_with (go_at_call 105; refine (wl_within _ _ _ _).mono ?_; rintro e u ⟨rfl,rfl⟩; first | rw [q1] | rw [q2] | rw [q3] | rw [q4])
  go_ret
  exact ⟨ret_bool HE.out.symm,HBW.out⟩
 rw [q4,Bool.true_and] at HE
 cases q5 : ((r.bt == 0) == (r.base == 0))
 ·
  rw [q5,Bool.false_and] at HE
  unfold Hd.val
  go_enter Tryz.func57,Tryz.ntmps57
  go_wp2_with (go_at_call 105; refine (wl_within _ _ _ _).mono ?_; rintro e u ⟨rfl,rfl⟩; first | rw [q1] | rw [q2] | rw [q3] | rw [q4])
  go_ret
  exact ⟨ret_bool HE.out.symm,HBW.out⟩
 ·
  rw [q5,Bool.true_and] at HE
  unfold Hd.val
  go_enter Tryz.func57,Tryz.ntmps57
  go_wp2_with (go_at_call 105; refine (wl_within _ _ _ _).mono ?_; rintro e u ⟨rfl,rfl⟩; try (first | rw [q1] | rw [q2] | rw [q3] | rw [q4]))
  go_ret
  exact ⟨ret_bool HE.out.symm,HBW.out⟩
end Go.Proofs.YtlmjeackfepllaaGreatDoor
namespace Go.Proofs.YtlmjeackfepllaaGreatDoor
open Go.RowKit
open Mem
open Go.Sort (grow)
def AnsW (f : FuncId) (args : Array Value) (u : World) (i : Nat) (os : Array Obj) (v : Value) : Prop :=
 Calls Tryz.prog f args (grow (redrawn u i) os) fun e w'' => e = .returned v ∧ ∃ p : Regrown,w'' = grow (redrawn u p.d) p.os
theorem within_ag (n lo hi : Int) (u : World) (i : Nat) (os : Array Obj) : AnsW 105 #[.int .i64 n,.int .i64 lo,.int .i64 hi] u i os (.bool (Wl.within n lo hi)) :=
 Calls.regrown_of ((wl_within n lo hi _).mono fun e w' h => ⟨h.1,by rw [h.2]; exact Below.refl _ _⟩)
theorem last_ag (r : Hd.T) (l : List Et.T) (u : World) (hl : Et.Ls u r.log.ao r.log.n r.log.cap l) (hb : -1000000000000000000 ≤ r.base ∧ r.base ≤ 1000000000000000000) (hn : l.length ≤ 100000) (i : Nat) (os : Array Obj) :
  AnsW 106 #[Hd.val r] u i os (.int .i64 (Wl.last (Hd.h r l))) := Calls.regrown_of (wl_last r l _ (hl.below (below_regrown u i os)) hb hn)
theorem lastTerm_ag (r : Hd.T) (l : List Et.T) (u : World) (hl : Et.Ls u r.log.ao r.log.n r.log.cap l) (i : Nat) (os : Array Obj) :
  AnsW 107 #[Hd.val r] u i os (.int .i64 (Wl.lastTerm (Hd.h r l))) := Calls.regrown_of (wl_lastTerm r l _ (hl.below (below_regrown u i os)))
set_option maxHeartbeats 4000000 in
theorem wl_fits (r : Hd.T) (l : List Et.T) (x : Et.T) (w : World) (hl : Et.Ls w r.log.ao r.log.n r.log.cap l) (hb : -1000000000000000000 ≤ r.base ∧ r.base ≤ 1000000000000000000) (hx : Et.Short x) :
  Calls Tryz.prog 58 #[Hd.val r,Et.val x] w fun e w' => e = .returned (.bool (Wl.fits (Hd.h r l) x)) ∧ Below w.heap.size w w' := by
 have HL := Lib.hid hl
 have HS := Lib.hid hx
 have hr1 := hl.fits
 have hr2 := hl.reach
 have hsz := hx.2.2
 obtain ⟨W,hW,hbW,hC⟩ := Hd.boxed1 w r
 obtain ⟨V,hV,hbV,hE⟩ := Et.boxed1 W x
 have HBW := Lib.hid (bchain hbW hbV)
 have hC2 := hC.below hbV
 have hV' := (hl.below hbW).below hbV
 have hen : Hid (Wl.fits (Hd.h r l) x = (decide ((r.log.n : Int) < 200) && (decide (Wl.last (Hd.h r l) < 1099511627776) && (Wl.within x.term (max 1 (Wl.lastTerm (Hd.h r l))) r.term && (Wl.within x.mem 0 127 && (decide ((x.data.size : Int) ≤ 1100) && ((x.mem == 0) || (x.data.toList == [])))))))) := Lib.hid (by
  unfold Wl.fits
  have e1 : decide ((Hd.h r l).log.length < 200) = decide ((r.log.n : Int) < 200) := by rw [hl.len]; show decide (l.length < 200) = _; rw [decide_eq_decide]; omega
  have e2 : decide (x.data.size ≤ 1100) = decide ((x.data.size : Int) ≤ 1100) := by rw [decide_eq_decide]; omega
  have e3 : decide (x.data.size = 0) = (x.data.toList == []) := by
   have := txt_len x.data
   rw [tl,Bool.eq_iff_iff,decide_eq_true_iff,beq_iff_eq,← List.length_eq_zero_iff,this]
  rw [e1,e2,e3]
  rfl)
 obtain ⟨f,hf⟩ : ∃ f,Wl.fits (Hd.h r l) x = f := ⟨_,rfl⟩
 have HE := hen
 unfold Hd.C at hC2
 obtain ⟨a0,a1,a2,a3,a4,a5,a6⟩ := hC2
 unfold Et.C at hE
 obtain ⟨k0,k1,k2⟩ := hE
 have a0' := cell_regrown a0
 have a1' := cell_regrown a1
 have a2' := cell_regrown a2
 have a3' := cell_regrown a3
 have a4' := cell_regrown a4
 have a5' := cell_regrown a5
 have a6' := cell_regrown a6
 have k0' := cell_regrown k0
 have k1' := cell_regrown k1
 have k2' := cell_regrown k2
 have hn0 : (r.log.n : Int) < 200 → l.length ≤ 100000 := fun z => by have := hl.len; omega
 have cL := fun (z : (r.log.n : Int) < 200) => last_ag r l V hV' hb (hn0 z)
 have cT := lastTerm_ag r l V hV'
 have c3 := fun m => within_ag x.term m r.term V
 have c4 := within_ag x.mem 0 127 V
 unfold Hd.val at cL cT
 unfold AnsW at cL cT c3 c4
 clear a0 a1 a2 a3 a4 a5 a6 k0 k1 k2 hl hC hbW hbV hV' hen hn0 hf hx
 unfold Hd.val Et.val
 obtain ⟨la,hla⟩ : ∃ la,Wl.last (Hd.h r l) = la := ⟨_,rfl⟩
 obtain ⟨lt,hlt⟩ : ∃ lt,Wl.lastTerm (Hd.h r l) = lt := ⟨_,rfl⟩
 rw [hla,hlt] at HE
 rw [hla] at cL
 rw [hlt] at cT
 obtain ⟨mx,hmx⟩ : ∃ mx,(if 1 < lt then lt else 1) = mx := ⟨_,rfl⟩
 have hm2 : max 1 lt = mx := by
  rw [← hmx]
  split <;> omega
 rw [hm2] at HE
 have c3 := c3 mx
 clear hm2
 clear hla hlt
 by_cases b1 : (r.log.n : Int) < 200
 ·
  have cL := cL b1
  have d1 := decide_eq_true b1
  rw [d1,Bool.true_and] at HE
  clear b1
  by_cases b2 : la < 1099511627776
  ·
   have d2 := decide_eq_true b2
   rw [d2,Bool.true_and] at HE
   clear b2
   cases b3 : Wl.within x.term mx r.term
   ·
    rw [b3] at c3
    rw [b3,Bool.false_and] at HE
    clear HL HS
    go_enter Tryz.func58,Tryz.ntmps58
    go_wp2_with fail
    clear hW hV
    refine wp_region_quiet_below (by kernel_rfl) (by kernel_rfl) ?_
    repeat (first | go_big_quiet_step (first | (go_at_call 106; with_reducible exact cL _ _) | (go_at_call 107; with_reducible exact cT _ _) | (go_at_call 105; with_reducible exact c3 _ _)) | quiet_step (first | (go_at_call 106; with_reducible exact cL _ _) | (go_at_call 107; with_reducible exact cT _ _) | (go_at_call 105; with_reducible exact c3 _ _)))
    refine wpQuiet_nil ?_
    intro _ hw'
    obtain ⟨⟨dq,osq⟩,hw''⟩ := hw'
    subst hw''
    have HB2 := Lib.hid (bchain HBW.out (below_regrown V dq osq))
    go_wp2_with fail
    go_ret
    exact ⟨ret_bool HE.out.symm,HB2.out⟩
   ·
    rw [b3] at c3
    rw [b3,Bool.true_and] at HE
    cases b4 : Wl.within x.mem 0 127
    ·
     rw [b4] at c4
     rw [b4,Bool.false_and] at HE
     clear HL HS
     go_enter Tryz.func58,Tryz.ntmps58
     go_wp2_with fail
     clear hW hV
     refine wp_region_quiet_below (by kernel_rfl) (by kernel_rfl) ?_
     repeat (first | go_big_quiet_step (first | (go_at_call 106; with_reducible exact cL _ _) | (go_at_call 107; with_reducible exact cT _ _) | (go_at_call 105; with_reducible exact c3 _ _) | (go_at_call 105; with_reducible exact c4 _ _)) | quiet_step (first | (go_at_call 106; with_reducible exact cL _ _) | (go_at_call 107; with_reducible exact cT _ _) | (go_at_call 105; with_reducible exact c3 _ _) | (go_at_call 105; with_reducible exact c4 _ _)))
     refine wpQuiet_nil ?_
     intro _ hw'
     obtain ⟨⟨dq,osq⟩,hw''⟩ := hw'
     subst hw''
     have HB2 := Lib.hid (bchain HBW.out (below_regrown V dq osq))
     go_wp2_with fail
     go_ret
     exact ⟨ret_bool HE.out.symm,HB2.out⟩
    ·
     rw [b4] at c4
     rw [b4,Bool.true_and] at HE
     by_cases b5 : (x.data.size : Int) ≤ 1100
     ·
      have d5 := decide_eq_true b5
      rw [d5,Bool.true_and] at HE
      clear b5
      cases b6 : (x.mem == 0)
      ·
       rw [b6,Bool.false_or] at HE
       cases b7 : (x.data.toList == [])
       ·
        rw [b7] at HE
        clear HL HS
        go_enter Tryz.func58,Tryz.ntmps58
        go_wp2_with fail
        clear hW hV
        refine wp_region_quiet_below (by kernel_rfl) (by kernel_rfl) ?_
        repeat (first | go_big_quiet_step (first | (go_at_call 106; with_reducible exact cL _ _) | (go_at_call 107; with_reducible exact cT _ _) | (go_at_call 105; with_reducible exact c3 _ _) | (go_at_call 105; with_reducible exact c4 _ _)) | quiet_step (first | (go_at_call 106; with_reducible exact cL _ _) | (go_at_call 107; with_reducible exact cT _ _) | (go_at_call 105; with_reducible exact c3 _ _) | (go_at_call 105; with_reducible exact c4 _ _)))
        refine wpQuiet_nil ?_
        intro _ hw'
        obtain ⟨⟨dq,osq⟩,hw''⟩ := hw'
        subst hw''
        have HB2 := Lib.hid (bchain HBW.out (below_regrown V dq osq))
        go_wp2_with fail
        go_ret
        exact ⟨ret_bool HE.out.symm,HB2.out⟩
       ·
        rw [b7] at HE
        clear HL HS
        go_enter Tryz.func58,Tryz.ntmps58
        go_wp2_with fail
        clear hW hV
        refine wp_region_quiet_below (by kernel_rfl) (by kernel_rfl) ?_
        repeat (first | go_big_quiet_step (first | (go_at_call 106; with_reducible exact cL _ _) | (go_at_call 107; with_reducible exact cT _ _) | (go_at_call 105; with_reducible exact c3 _ _) | (go_at_call 105; with_reducible exact c4 _ _)) | quiet_step (first | (go_at_call 106; with_reducible exact cL _ _) | (go_at_call 107; with_reducible exact cT _ _) | (go_at_call 105; with_reducible exact c3 _ _) | (go_at_call 105; with_reducible exact c4 _ _)))
        refine wpQuiet_nil ?_
        intro _ hw'
        obtain ⟨⟨dq,osq⟩,hw''⟩ := hw'
        subst hw''
        have HB2 := Lib.hid (bchain HBW.out (below_regrown V dq osq))
        go_wp2_with fail
        go_ret
        exact ⟨ret_bool HE.out.symm,HB2.out⟩
      ·
       rw [b6,Bool.true_or] at HE
       clear HL HS
       go_enter Tryz.func58,Tryz.ntmps58
       go_wp2_with fail
       clear hW hV
       refine wp_region_quiet_below (by kernel_rfl) (by kernel_rfl) ?_
       repeat (first | go_big_quiet_step (first | (go_at_call 106; with_reducible exact cL _ _) | (go_at_call 107; with_reducible exact cT _ _) | (go_at_call 105; with_reducible exact c3 _ _) | (go_at_call 105; with_reducible exact c4 _ _)) | quiet_step (first | (go_at_call 106; with_reducible exact cL _ _) | (go_at_call 107; with_reducible exact cT _ _) | (go_at_call 105; with_reducible exact c3 _ _) | (go_at_call 105; with_reducible exact c4 _ _)))
       refine wpQuiet_nil ?_
       intro _ hw'
       obtain ⟨⟨dq,osq⟩,hw''⟩ := hw'
       subst hw''
       have HB2 := Lib.hid (bchain HBW.out (below_regrown V dq osq))
       go_wp2_with fail
       go_ret
       exact ⟨ret_bool HE.out.symm,HB2.out⟩
     ·
      have d5 := decide_eq_false b5
      rw [d5,Bool.false_and] at HE
      clear b5
      clear HL HS
      go_enter Tryz.func58,Tryz.ntmps58
      go_wp2_with fail
      clear hW hV
      refine wp_region_quiet_below (by kernel_rfl) (by kernel_rfl) ?_
      repeat (first | go_big_quiet_step (first | (go_at_call 106; with_reducible exact cL _ _) | (go_at_call 107; with_reducible exact cT _ _) | (go_at_call 105; with_reducible exact c3 _ _) | (go_at_call 105; with_reducible exact c4 _ _)) | quiet_step (first | (go_at_call 106; with_reducible exact cL _ _) | (go_at_call 107; with_reducible exact cT _ _) | (go_at_call 105; with_reducible exact c3 _ _) | (go_at_call 105; with_reducible exact c4 _ _)))
      refine wpQuiet_nil ?_
      intro _ hw'
      obtain ⟨⟨dq,osq⟩,hw''⟩ := hw'
      subst hw''
      have HB2 := Lib.hid (bchain HBW.out (below_regrown V dq osq))
      go_wp2_with fail
      go_ret
      exact ⟨ret_bool HE.out.symm,HB2.out⟩
  ·
   have d2 := decide_eq_false b2
   rw [d2,Bool.false_and] at HE
   clear b2
   clear HL HS
   go_enter Tryz.func58,Tryz.ntmps58
   go_wp2_with fail
   clear hW hV
   refine wp_region_quiet_below (by kernel_rfl) (by kernel_rfl) ?_
   repeat (first | go_big_quiet_step (first | (go_at_call 106; with_reducible exact cL _ _)) | quiet_step (first | (go_at_call 106; with_reducible exact cL _ _)))
   refine wpQuiet_nil ?_
   intro _ hw'
   obtain ⟨⟨dq,osq⟩,hw''⟩ := hw'
   subst hw''
   have HB2 := Lib.hid (bchain HBW.out (below_regrown V dq osq))
   go_wp2_with fail
   go_ret
   exact ⟨ret_bool HE.out.symm,HB2.out⟩
 ·
  have d1 := decide_eq_false b1
  rw [d1,Bool.false_and] at HE
  clear b1 cL
  clear HL HS
  go_enter Tryz.func58,Tryz.ntmps58
  go_wp2_with fail
  clear hW hV
  refine wp_region_quiet_below (by kernel_rfl) (by kernel_rfl) ?_
  repeat (first | go_big_quiet_step (first | fail) | quiet_step (first | fail))
  refine wpQuiet_nil ?_
  intro _ hw'
  obtain ⟨⟨dq,osq⟩,hw''⟩ := hw'
  subst hw''
  have HB2 := Lib.hid (bchain HBW.out (below_regrown V dq osq))
  go_wp2_with fail
  go_ret
  exact ⟨ret_bool HE.out.symm,HB2.out⟩
end Go.Proofs.YtlmjeackfepllaaGreatDoor
