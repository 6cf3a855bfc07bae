import Derived.Maps.AppendAt
import Derived.Laws.AppendOwnNone
import Derived.Laws.Rows
import Derived.Lib.QuietBelow
import Derived.Deep.RegionWith
import Derived.RegionTactic
import Derived.Test.YtagjbjppddbalaaZLt1
namespace Go.Proofs.Ytagjbjppddbalaa.Crc
def half (s : Nat) : Nat := if s % 2 = 1 then (s / 2) ^^^ 3945912366 else s / 2
def halves : Nat → Nat → Nat
 | 0,s => s
 | n + 1,s => halves n (half s)
def eat (s : Nat) : List UInt8 → Nat
 | [] => s
 | b :: l => eat (halves 8 (s ^^^ b.toNat)) l
def on (c : Nat) (l : List UInt8) : Nat := eat (c ^^^ 4294967295) l ^^^ 4294967295
def le : List UInt8 → Nat
 | [] => 0
 | b :: l => b.toNat + 256 * le l
theorem xor_lt (a b : Nat) (ha : a < 4294967296) (hb : b < 4294967296) : a ^^^ b < 4294967296 :=
 Nat.xor_lt_two_pow (n := 32) ha hb
theorem half_lt (s : Nat) (h : s < 4294967296) : half s < 4294967296 := by
 unfold half
 split
 · exact xor_lt _ _ (by omega) (by omega)
 · omega
theorem halves_lt : ∀ (n s : Nat),s < 4294967296 → halves n s < 4294967296
 | 0,_,h => h
 | n + 1,s,h => halves_lt n (half s) (half_lt s h)
theorem halves_succ (n s : Nat) : halves (n + 1) s = half (halves n s) := by
 induction n generalizing s with
 | zero => rfl
 | succ n ih => exact ih (half s)
theorem halves_add (m n s : Nat) : halves (m + n) s = halves n (halves m s) := by
 induction m generalizing s with
 | zero => simp [halves]
 | succ m ih => rw [show m + 1 + n = (m + n) + 1 from by omega]; exact ih (half s)
theorem eat_lt : ∀ (l : List UInt8) (s : Nat),s < 4294967296 → eat s l < 4294967296
 | [],_,h => h
 | b :: l,s,h => eat_lt l _ (halves_lt 8 _ (xor_lt _ _ h (by have := b.toNat_lt; omega)))
theorem on_lt (c : Nat) (l : List UInt8) (h : c < 4294967296) : on c l < 4294967296 :=
 xor_lt _ _ (eat_lt l _ (xor_lt _ _ h (by omega))) (by omega)
theorem eat_append (s : Nat) (a b : List UInt8) : eat s (a ++ b) = eat (eat s a) b := by
 induction a generalizing s with
 | nil => rfl
 | cons x a ih => exact ih _
theorem xor_xor (a b : Nat) : a ^^^ b ^^^ b = a := by rw [Nat.xor_assoc,Nat.xor_self,Nat.xor_zero]
theorem on_nil (c : Nat) : on c [] = c := xor_xor c _
theorem on_append (c : Nat) (a b : List UInt8) : on c (a ++ b) = on (on c a) b := by
 unfold on
 rw [eat_append,xor_xor]
theorem half_xor (a b : Nat) : half (a ^^^ b) = half a ^^^ half b := by
 unfold half
 have h1 : ((a ^^^ b) % 2 = 1) ↔ ¬ ((a % 2 = 1) ↔ (b % 2 = 1)) := Nat.xor_mod_two_eq_one
 have hm : (a ^^^ b) % 2 = (a + b) % 2 := by omega
 have hd : (a ^^^ b) / 2 = a / 2 ^^^ b / 2 := Nat.xor_div_two ..
 rw [hd,hm]
 by_cases ha : a % 2 = 1 <;> by_cases hb : b % 2 = 1
 ·
  have h : ¬ (a + b) % 2 = 1 := by omega
  simp only [ha,hb,h,if_true,if_false]
  rw [show (a / 2 ^^^ 3945912366) ^^^ (b / 2 ^^^ 3945912366) = (a / 2 ^^^ b / 2) ^^^ (3945912366 ^^^ 3945912366) from by ac_rfl,Nat.xor_self,Nat.xor_zero]
 ·
  have h : (a + b) % 2 = 1 := by omega
  simp only [ha,hb,h,if_true,if_false]
  ac_rfl
 ·
  have h : (a + b) % 2 = 1 := by omega
  simp only [ha,hb,h,if_true,if_false]
  ac_rfl
 ·
  have h : ¬ (a + b) % 2 = 1 := by omega
  simp only [ha,hb,h,if_false]
theorem halves_xor (n a b : Nat) : halves n (a ^^^ b) = halves n a ^^^ halves n b := by
 induction n generalizing a b with
 | zero => rfl
 | succ n ih => show halves n (half (a ^^^ b)) = _; rw [half_xor]; exact ih _ _
theorem half_double (y : Nat) : half (2 * y) = y := by
 unfold half
 rw [if_neg (by omega)]
 omega
theorem halves_shift (j y : Nat) : halves j (2 ^ j * y) = y := by
 induction j generalizing y with
 | zero => simp [halves]
 | succ j ih =>
  show halves j (half (2 ^ (j + 1) * y)) = y
  rw [show 2 ^ (j + 1) * y = 2 * (2 ^ j * y) from by rw [Nat.pow_succ]; ac_rfl,half_double]
  exact ih y
theorem half_ne (s : Nat) (h : s < 4294967296) (h0 : s ≠ 0) : half s ≠ 0 := by
 unfold half
 split
 ·
  intro e
  have : s / 2 = 3945912366 := by
   have := congrArg (· ^^^ 3945912366) e
   simp only [xor_xor,Nat.zero_xor] at this
   exact this
  omega
 · omega
theorem halves_ne : ∀ (n s : Nat),s < 4294967296 → s ≠ 0 → halves n s ≠ 0
 | 0,_,_,h0 => h0
 | n + 1,s,h,h0 => halves_ne n (half s) (half_lt s h) (half_ne s h h0)
theorem burst (m j y : Nat) (hy : y < 4294967296) (h0 : y ≠ 0) : halves m (2 ^ j * y) ≠ 0 := by
 by_cases h : j ≤ m
 ·
  obtain ⟨k,rfl⟩ : ∃ k,m = j + k := ⟨m - j,by omega⟩
  rw [halves_add,halves_shift]
  exact halves_ne k y hy h0
 ·
  obtain ⟨k,rfl⟩ : ∃ k,j = m + k := ⟨j - m,by omega⟩
  rw [show 2 ^ (m + k) * y = 2 ^ m * (2 ^ k * y) from by rw [Nat.pow_add]; ac_rfl,halves_shift]
  have : 0 < 2 ^ k * y := Nat.mul_pos (Nat.two_pow_pos k) (by omega)
  omega
theorem halves_zero (m : Nat) : halves m 0 = 0 := by
 induction m with
 | zero => rfl
 | succ m ih => exact ih
theorem low_xor (b M : Nat) (h : b < 256) : b + 256 * M = b ^^^ 256 * M := by
 have h1 : 256 * M = 2 ^ 8 * M := by omega
 rw [h1,Nat.add_comm,Nat.xor_comm]
 have := Nat.two_pow_add_eq_or_of_lt (i := 8) (b := b) (by omega) M
 rw [this]
 apply Nat.eq_of_testBit_eq
 intro i
 rw [Nat.testBit_or,Nat.testBit_xor]
 by_cases hi : i < 8
 ·
  rw [Nat.testBit_two_pow_mul]
  simp [show ¬ (8 ≤ i) from by omega]
 ·
  have : b.testBit i = false := Nat.testBit_lt_two_pow (Nat.lt_of_lt_of_le h (by
   have : 2 ^ 8 ≤ 2 ^ i := Nat.pow_le_pow_right (by omega) (by omega)
   simpa using this))
  simp [this]
theorem eat_le (s : Nat) (l : List UInt8) : eat s l = halves (8 * l.length) (le l ^^^ s) := by
 induction l generalizing s with
 | nil =>
  show s = halves (8 * 0) (0 ^^^ s)
  rw [Nat.mul_zero,Nat.zero_xor,halves]
 | cons b l ih =>
  show eat (halves 8 (s ^^^ b.toNat)) l = _
  have e : halves 8 (le (b :: l) ^^^ s) = le l ^^^ halves 8 (s ^^^ b.toNat) := by
   rw [le,low_xor _ _ b.toNat_lt,show (b.toNat ^^^ 256 * le l) ^^^ s = (2 ^ 8 * le l) ^^^ (s ^^^ b.toNat) from by rw [show 2 ^ 8 = 256 from rfl]; ac_rfl,halves_xor 8 (2 ^ 8 * le l),halves_shift]
  rw [ih,show 8 * (b :: l).length = 8 + 8 * l.length from by simp; omega,halves_add,e]
theorem le_lt (l : List UInt8) : le l < 2 ^ (8 * l.length) := by
 induction l with
 | nil => simp [le]
 | cons b l ih =>
  have hb := b.toNat_lt
  show b.toNat + 256 * le l < _
  rw [show 8 * (b :: l).length = 8 + 8 * l.length from by simp; omega,Nat.pow_add]
  omega
theorem le_append (a b : List UInt8) : le (a ++ b) = le a + 2 ^ (8 * a.length) * le b := by
 induction a with
 | nil => simp [le]
 | cons x a ih =>
  show x.toNat + 256 * le (a ++ b) = x.toNat + 256 * le a + _
  rw [ih,show 8 * (x :: a).length = 8 + 8 * a.length from by simp; omega,Nat.pow_add,Nat.mul_add]
  have : 256 * (2 ^ (8 * a.length) * le b) = 2 ^ 8 * 2 ^ (8 * a.length) * le b := by rw [Nat.mul_assoc]
  omega
theorem unlike (c : Nat) (p q : List UInt8) (j y : Nat) (hl : q.length = p.length) (hq : le q = le p ^^^ (2 ^ j * y)) (hy : y < 4294967296) : on c p = on c q ↔ y = 0 := by
 unfold on
 constructor
 ·
  intro h
  have h1 : eat (c ^^^ 4294967295) p = eat (c ^^^ 4294967295) q := by
   have := congrArg (· ^^^ 4294967295) h
   simpa only [xor_xor] using this
  rw [eat_le,eat_le,hl,hq,show (le p ^^^ 2 ^ j * y) ^^^ (c ^^^ 4294967295) = (le p ^^^ (c ^^^ 4294967295)) ^^^ (2 ^ j * y) from by ac_rfl,halves_xor _ (le p ^^^ (c ^^^ 4294967295))] at h1
  by_cases h0 : y = 0
  · exact h0
  ·
   refine absurd ?_ (burst (8 * p.length) j y hy h0)
   have := congrArg (halves (8 * p.length) (le p ^^^ (c ^^^ 4294967295)) ^^^ ·) h1
   simp only [Nat.xor_self,← Nat.xor_assoc,Nat.zero_xor] at this
   exact this.symm
 ·
  intro h
  subst h
  rw [eat_le,eat_le,hl,hq]
  simp
def four (c : Nat) : List UInt8 := [UInt8.ofNat c,UInt8.ofNat (c / 256),UInt8.ofNat (c / 65536),UInt8.ofNat (c / 16777216)]
theorem le_four (c : Nat) (h : c < 4294967296) : le (four c) = c := by
 simp only [four,le,UInt8.toNat_ofNat']
 omega
theorem four_le (l : List UInt8) (h : l.length = 4) : four (le l) = l := by
 match l,h with
 | [a,b,c,d],_ =>
  have ha := a.toNat_lt
  have hb := b.toNat_lt
  have hc := c.toNat_lt
  have hd := d.toNat_lt
  simp only [four,le]
  have e1 : UInt8.ofNat (a.toNat + 256 * (b.toNat + 256 * (c.toNat + 256 * (d.toNat + 256 * 0)))) = a := UInt8.toNat_inj.1 (by rw [UInt8.toNat_ofNat']; omega)
  have e2 : UInt8.ofNat ((a.toNat + 256 * (b.toNat + 256 * (c.toNat + 256 * (d.toNat + 256 * 0)))) / 256) = b := UInt8.toNat_inj.1 (by rw [UInt8.toNat_ofNat']; omega)
  have e3 : UInt8.ofNat ((a.toNat + 256 * (b.toNat + 256 * (c.toNat + 256 * (d.toNat + 256 * 0)))) / 65536) = c := UInt8.toNat_inj.1 (by rw [UInt8.toNat_ofNat']; omega)
  have e4 : UInt8.ofNat ((a.toNat + 256 * (b.toNat + 256 * (c.toNat + 256 * (d.toNat + 256 * 0)))) / 16777216) = d := UInt8.toNat_inj.1 (by rw [UInt8.toNat_ofNat']; omega)
  rw [e1,e2,e3,e4]
def sealed (p : List UInt8) : List UInt8 := p ++ four (on 0 p)
def good (b : List UInt8) : Bool := on 0 (b.take (b.length - 4)) == le (b.drop (b.length - 4))
theorem good_halves (b : List UInt8) (h : 4 ≤ b.length) : good b = true ↔ halves (8 * (b.length - 4)) (le b ^^^ 4294967295) = 4294967295 := by
 have hb : le b = le (b.take (b.length - 4)) + 2 ^ (8 * (b.length - 4)) * le (b.drop (b.length - 4)) := by
  have := le_append (b.take (b.length - 4)) (b.drop (b.length - 4))
  rw [List.take_append_drop,List.length_take,Nat.min_eq_left (by omega)] at this
  exact this
 have hlt := le_lt (b.take (b.length - 4))
 rw [List.length_take,Nat.min_eq_left (by omega)] at hlt
 have hx : le b = le (b.take (b.length - 4)) ^^^ 2 ^ (8 * (b.length - 4)) * le (b.drop (b.length - 4)) := by
  rw [hb,Nat.add_comm,Nat.two_pow_add_eq_or_of_lt hlt,Nat.xor_comm]
  apply Nat.eq_of_testBit_eq
  intro i
  rw [Nat.testBit_or,Nat.testBit_xor]
  by_cases hi : i < 8 * (b.length - 4)
  ·
   rw [Nat.testBit_two_pow_mul]
   simp [show ¬ (8 * (b.length - 4) ≤ i) from by omega]
  ·
   have : (le (b.take (b.length - 4))).testBit i = false := Nat.testBit_lt_two_pow (Nat.lt_of_lt_of_le hlt (Nat.pow_le_pow_right (by omega) (by omega)))
   simp [this]
 unfold good on
 rw [beq_iff_eq,eat_le,List.length_take,Nat.min_eq_left (by omega),hx]
 rw [show (le (b.take (b.length - 4)) ^^^ 2 ^ (8 * (b.length - 4)) * le (b.drop (b.length - 4))) ^^^ 4294967295 = (le (b.take (b.length - 4)) ^^^ (0 ^^^ 4294967295)) ^^^ (2 ^ (8 * (b.length - 4)) * le (b.drop (b.length - 4))) from by rw [Nat.zero_xor]; ac_rfl]
 rw [halves_xor _ (le (b.take (b.length - 4)) ^^^ (0 ^^^ 4294967295)) (2 ^ (8 * (b.length - 4)) * le (b.drop (b.length - 4))),halves_shift]
 generalize halves (8 * (b.length - 4)) (le (b.take (b.length - 4)) ^^^ (0 ^^^ 4294967295)) = x
 generalize le (b.drop (b.length - 4)) = y
 constructor
 ·
  intro e
  rw [← e,← Nat.xor_assoc,Nat.xor_self,Nat.zero_xor]
 ·
  intro e
  rw [← e,← Nat.xor_assoc,Nat.xor_self,Nat.zero_xor]
theorem sealed_length (p : List UInt8) : (sealed p).length = p.length + 4 := by simp [sealed,four]
theorem good_sealed (p : List UInt8) : good (sealed p) = true := by
 unfold good
 rw [sealed_length,Nat.add_sub_cancel]
 unfold sealed
 rw [List.take_left,List.drop_left,le_four _ (on_lt 0 p (by omega))]
 simp
theorem turned (p b : List UInt8) (j y : Nat) (hl : b.length = p.length + 4) (hb : le b = le (sealed p) ^^^ (2 ^ j * y)) (hy : y < 4294967296) : good b = true ↔ y = 0 := by
 have h1 := (good_halves (sealed p) (by rw [sealed_length]; omega)).1 (good_sealed p)
 rw [sealed_length,Nat.add_sub_cancel] at h1
 rw [good_halves b (by omega),hl,Nat.add_sub_cancel,hb,show (le (sealed p) ^^^ 2 ^ j * y) ^^^ 4294967295 = (le (sealed p) ^^^ 4294967295) ^^^ (2 ^ j * y) from by ac_rfl,halves_xor,h1]
 constructor
 ·
  intro h
  by_cases h0 : y = 0
  · exact h0
  ·
   refine absurd ?_ (burst (8 * p.length) j y hy h0)
   have := congrArg (4294967295 ^^^ ·) h
   simp only [← Nat.xor_assoc,Nat.xor_self,Nat.zero_xor] at this
   exact this
 ·
  intro h
  subst h
  rw [Nat.mul_zero,halves_zero,Nat.xor_zero]
end Go.Proofs.Ytagjbjppddbalaa.Crc
namespace Go.Proofs.Ytagjbjppddbalaa
open Go.RowKit
theorem and_one (x : Nat) (h : x < 4294967296) : bits .and .u32 (x : Int) 1 = ((x % 2 : Nat) : Int) := by
 have := u32_and_nat x 1 h (by omega)
 rw [Nat.and_one_is_mod] at this
 exact this
theorem half_odd (x : Nat) (h : x < 4294967296) (ho : ((x : Int) % 2 == 1) = true) : bits .xor .u32 ((x : Int) / 2) 3945912366 = ((Crc.half x : Nat) : Int) := by
 have e : (x : Int) % 2 = 1 := by simpa using ho
 unfold Crc.half
 rw [if_pos (by omega),show (x : Int) / 2 = ((x / 2 : Nat) : Int) from by omega]
 exact u32_xor_nat (x / 2) 3945912366 (by omega) (by omega)
theorem half_even (x : Nat) (he : ((x : Int) % 2 == 1) = false) : (x : Int) / 2 = ((Crc.half x : Nat) : Int) := by
 have e : ¬ (x : Int) % 2 = 1 := by simpa using he
 unfold Crc.half
 rw [if_neg (by omega)]
 omega
theorem not_u32 (c : Nat) (h : c < 4294967296) : bits .xor .u32 IntKind.u32.max (c : Int) = ((c ^^^ 4294967295 : Nat) : Int) := by
 rw [Nat.xor_comm,show IntKind.u32.max = 4294967295 from rfl]
 exact u32_xor_nat 4294967295 c (by omega) h
theorem xor_byte (s : Nat) (b : UInt8) (h : s < 4294967296) : bits .xor .u32 (s : Int) (b.toNat : Int) = ((s ^^^ b.toNat : Nat) : Int) :=
 u32_xor_nat s b.toNat h (by have := b.toNat_lt; omega)
theorem eat_snoc (s : Nat) (bs : List UInt8) (k : Nat) (hk : k < bs.length) : Crc.eat s (bs.take (k + 1)) = Crc.halves 8 (Crc.eat s (bs.take k) ^^^ bs[k].toNat) := by
 rw [List.take_succ_eq_append_getElem hk,Crc.eat_append]
 rfl
def Parts (w : World) (g off : Nat) (ps : List (List UInt8)) : Prop :=
 ∀ k (hk : k < ps.length),∃ ao n cp,w.cell? ⟨g,off + k,none⟩ = some (.slice ao n cp) ∧ n = ps[k].length ∧ n ≤ 9223372036854775807 ∧ Seg w ao ps[k]
theorem on_flat (c : Nat) (ps : List (List UInt8)) (k : Nat) (hk : k < ps.length) : Crc.on c (ps.take (k + 1)).flatten = Crc.on (Crc.on c (ps.take k).flatten) ps[k] := by
 rw [List.take_succ_eq_append_getElem hk,List.flatten_append,Crc.on_append]
 simp
theorem le_snoc (bs : List UInt8) (k : Nat) (hk : k < bs.length) : Crc.le (bs.take (k + 1)) = Crc.le (bs.take k) + 2 ^ (8 * k) * bs[k].toNat := by
 rw [List.take_succ_eq_append_getElem hk,Crc.le_append]
 simp [Crc.le,Nat.min_eq_left (Nat.le_of_lt hk)]
theorem or_shift (x y k : Nat) (hk : k < 4) (hx : x < 2 ^ (8 * k)) (hy : y < 256) : bits .or .u32 (x : Int) ((y : Int) * 2 ^ (8 * k) % 4294967296) = ((x + 2 ^ (8 * k) * y : Nat) : Int) := by
 have hp : 2 ^ (8 * k) ≤ 16777216 := by
  have : 2 ^ (8 * k) ≤ 2 ^ 24 := Nat.pow_le_pow_right (by omega) (by omega)
  simpa using this
 have hm : y * 2 ^ (8 * k) ≤ 255 * 2 ^ (8 * k) := Nat.mul_le_mul_right _ (by omega)
 have e1 : ((y : Int) * 2 ^ (8 * k) % 4294967296) = ((2 ^ (8 * k) * y : Nat) : Int) := by
  have : ((y : Int) * 2 ^ (8 * k)) = ((y * 2 ^ (8 * k) : Nat) : Int) := by simp
  rw [this,Nat.mul_comm]
  rw [Nat.mul_comm] at hm
  omega
 rw [e1,u32_or_nat _ _ (by omega) (by rw [Nat.mul_comm]; omega),Nat.add_comm,Nat.two_pow_add_eq_or_of_lt hx,Nat.or_comm]
theorem parts_one {u : World} {ao : Option Addr} {bs : List UInt8} {n cap : Nat} (hs : Seg u ao bs) (hn : n = bs.length) (hl : n ≤ 9223372036854775807) :
  Parts (u.alloc (.cells #[.slice ao n cap] 25)) u.heap.size 0 [bs] := by
 intro k hk
 obtain rfl : k = 0 := by simp at hk; omega
 refine ⟨ao,n,cap,?_,hn,hl,hs.below ((Below.refl _ _).alloc (Nat.le_refl _) _)⟩
 rw [cell_of_row _ _ _ _ _ _ (heap_alloc_new u _)]
 rfl
theorem Parts.drew {w : World} {g off : Nat} {ps : List (List UInt8)} (h : Parts w g off ps) : Parts w.drew g off ps := h
theorem parts_cells {w : World} {g : Nat} {vs : Array Value} {ps : List (List UInt8)} (hg : w.heap[g]? = some (.cells vs 25))
  (h : ∀ k (hk : k < ps.length),∃ ao n cp,vs[k]? = some (.slice ao n cp) ∧ n = ps[k].length ∧ n ≤ 9223372036854775807 ∧ Seg w ao ps[k]) : Parts w g 0 ps := by
 intro k hk
 obtain ⟨ao,n,cp,h1,h2⟩ := h k hk
 exact ⟨ao,n,cp,by rw [Nat.zero_add,cell_of_row _ _ _ _ _ _ hg]; exact h1,h2⟩
theorem Seg.alloc {w : World} {ao : Option Addr} {bs : List UInt8} (h : Seg w ao bs) (o : Obj) : Seg (w.alloc o) ao bs := h.below ((Below.refl _ _).alloc (Nat.le_refl _) _)
end Go.Proofs.Ytagjbjppddbalaa
namespace Go.Proofs.Ytagjbjppddbalaa.By
open Go.RowKit
open Mem
def Own (w : World) (B : Nat) (v : Value) (xs : List UInt8) : Prop := w.ownsRow B 5 1 v xs.length (xs.map bv)
theorem own_nil (w : World) (B : Nat) : Own w B (.slice none 0 0) [] := ⟨rfl,.inl ⟨rfl,rfl⟩⟩
theorem own_empty {X : World} {B g : Nat} (hB : B ≤ g) (hg : X.heap[g]? = some (.cells #[] 5 (0,0))) : Own X B (.slice (some ⟨g,0,none⟩) 0 0) [] :=
 ⟨rfl,.inr ⟨g,0,#[],rfl,hB,hg,Nat.le_refl _,Nat.zero_le _,rfl,rfl⟩⟩
theorem own_ls {w : World} {B : Nat} {v : Value} {xs : List UInt8} (h : Own w B v xs) : ∃ ao cap,v = .slice ao xs.length cap ∧ Ls w ao xs.length cap xs ∧ (∀ ad,ao = some ad → ∃ g,ad = ⟨g,0,none⟩ ∧ B ≤ g) := by
 rcases h.2 with ⟨h',h2⟩ | ⟨g,cap,cur,h',hb,hg,hnc,hcm,hcs,htake⟩
 ·
  have e : xs = [] := List.length_eq_zero_iff.1 h2
  subst e
  exact ⟨none,0,h',ls_nil w,fun ad k => by cases k⟩
 ·
  refine ⟨some ⟨g,0,none⟩,cap,h',⟨rfl,hnc,hcm,fun k => (by cases k),.inr ⟨g,0,rfl,fun k hk => ?_⟩⟩,fun ad k => by cases k; exact ⟨g,rfl,hb⟩⟩
  rw [Nat.zero_add,cell_of_row w g _ _ _ _ hg]
  rw [Nat.mul_one] at htake
  have e : (cur.toList.take xs.length)[k]? = (xs.map bv)[k]? := by rw [htake]
  rw [List.getElem?_take_of_lt hk,List.getElem?_map,List.getElem?_eq_getElem hk] at e
  simpa using e
theorem own_ge {w : World} {B : Nat} {v : Value} {xs : List UInt8} (h : Own w B v xs) : ∀ k,v.ownBlock = some k → B ≤ k := by
 intro k hk
 rcases h.2 with ⟨h',_⟩ | ⟨g,cap,cur,h',hb,_⟩
 ·
  rw [h'] at hk
  cases hk
 ·
  rw [h'] at hk
  simp only [Value.ownBlock,Option.some.injEq] at hk
  omega
theorem own_mono {w : World} {B C : Nat} {v : Value} {xs : List UInt8} (h : Own w B v xs) (hc : C ≤ B) : Own w C v xs := by
 obtain ⟨h1,h2⟩ := h
 refine ⟨h1,?_⟩
 rcases h2 with h2 | ⟨g,cap,cur,h',hb,h3⟩
 · exact .inl h2
 · exact .inr ⟨g,cap,cur,h',by omega,h3⟩
theorem own_alloc {w : World} {B : Nat} {v : Value} {xs : List UInt8} (h : Own w B v xs) (o : Obj) : Own (w.alloc o) B v xs := World.ownsRow.alloc h o
theorem own_below {w u : World} {B : Nat} {v : Value} {xs : List UInt8} (h : Own w B v xs) (k : Below w.heap.size w u) : Own u B v xs := by
 obtain ⟨h1,h2⟩ := h
 refine ⟨h1,?_⟩
 rcases h2 with h2 | ⟨g,cap,cur,h',hb,hg,h3⟩
 · exact .inl h2
 ·
  refine .inr ⟨g,cap,cur,h',hb,?_,h3⟩
  have hl : g < w.heap.size := by
   obtain ⟨hl,_⟩ := Array.getElem?_eq_some_iff.1 hg
   exact hl
  rw [k.block g hl]
  exact hg
theorem wpList_append {ops : Array Oper} {rest : List Oper} {o : Oper} {a : Act} {Q : Exit → Act → World → Prop} (w : World) (hgd : o.guard = none) (s x : Operand)
  (ho : o.op = .call { callee := .builtin .append,args := #[s,x],argTypes := #[25,25] })
  (B : Nat) (v : Value) (xs : List UInt8) (hs : a.eval s = v) (hown : Own w B v xs)
  (ao : Option Addr) (n cap : Nat) (zs : List UInt8) (hx : a.eval x = .slice ao n cap) (hn : n = zs.length) (hnil : ao = none → cap = 0) (hsrc : Seg w ao zs) (hl : xs.length + n ≤ 140737488355328) (hb : B ≤ w.heap.size)
  (h : ∀ v' w1,Own w1 B v' (xs ++ zs) → w.grownBy w1 v.ownBlock → (v'.ownBlock = v.ownBlock ∨ v'.ownBlock = some w.heap.size) → wpList Try.prog ops Q rest (a.put o.dst v') w1) : wpList Try.prog ops Q (o :: rest) a w := by
 refine wpList_plain hgd fun K hK => ?_
 obtain ⟨i0,hi,hz0,hz1,hz2⟩ := info_parts info
 have hmx : maxLen = 9223372036854775807 := rfl
 cases ao with
 | none =>
  obtain rfl : cap = 0 := hnil rfl
  rcases hsrc with e | ⟨b,off,e,_⟩
  ·
   obtain rfl : n = 0 := by rw [hn,e]; rfl
   have hrun := run_append_owned_none (P := Try.prog) (w := w) B 25 o.type 5 i0 1 Try.underlying25 hi v _ _ hown
   unfold Oper.wp
   simp [execOp,ho,resolve,invoke,builtin,hs,hx,hrun,Result.andThen]
   exact hK _ _ (h v w (by rw [e,List.append_nil]; exact hown) ⟨rfl,rfl,rfl,Nat.le_refl _,fun _ _ _ => rfl⟩ (.inl rfl))
  · cases e
 | some ad =>
  obtain ⟨v',w',hr,h2,h3,_,h5⟩ := run_append_own_at (P := Try.prog) w B 25 o.type 5 i0 (.int .u8 0) 1 1 Try.underlying25 hi hz0 hz1 hz2 rfl (by omega) v xs.length (xs.map bv) hown ad n cap (zs.map bv) (by rw [List.length_map,hn,Nat.mul_one]) (by
   rcases hsrc with e | ⟨b,off,e,hc⟩
   ·
    rw [e]
    intro j u hu
    simp at hu
   ·
    cases e
    exact fun j u hu => news_of hc j u hu) (one_cell zs) (by omega) (by omega) hb
  unfold Oper.wp execOp
  simp only [ho,resolve,invoke,builtin,Sem.run_bind,Sem.run_pure,Result.andThen_ok,List.map_toArray,List.map_cons,List.map_nil,hs,hx,hr]
  refine hK _ _ (h v' w' ?_ h3 h5)
  unfold Own
  rw [List.map_append,List.length_append,← hn]
  exact h2
theorem seg_one {X : World} {g : Nat} {x : UInt8} {v : Value} (h : X.heap[g]? = some (.cells #[v] 5 (0,0))) (e : bv x = v) : Seg X (some ⟨g,0,none⟩) [x] := by
 refine .inr ⟨g,0,rfl,fun k hk => ?_⟩
 obtain rfl : k = 0 := by simpa using hk
 rw [cell_of_row X g _ _ _ _ h]
 rw [List.getElem_cons_zero,e]
 rfl
end Go.Proofs.Ytagjbjppddbalaa.By
namespace Go.Proofs.Ytagjbjppddbalaa.By
open Go.RowKit
open Mem
theorem take_snoc {xs ys : List UInt8} {k : Nat} (h : xs.take k = ys.take k) (ha : k < xs.length) (hb : k < ys.length) (e : xs[k] = ys[k]) : xs.take (k + 1) = ys.take (k + 1) := by
 rw [List.take_succ_eq_append_getElem ha,List.take_succ_eq_append_getElem hb,h,e]
set_option maxHeartbeats 1000000 in
theorem same_any (xs ys : List UInt8) (ao bo : Option Addr) (n m ca cb : Nat) (w : World) (hA : Ls w ao n ca xs) (hB : Ls w bo m cb ys) :
  Calls Try.prog 11 #[.slice ao n ca,.slice bo m cb] w fun e w' => e = .returned (.bool (decide (xs = ys))) ∧ Below w.heap.size w w' := by
 have HA := Lib.hid hA
 have HB := Lib.hid hB
 have HN := Lib.hid hA.len
 have HM := Lib.hid hB.len
 have hca := hA.reach
 have hfa := hA.fits
 have hcb := hB.reach
 have hfb := hB.fits
 clear hA hB
 by_cases hnm : n = m
 ·
  subst hnm
  have hne : ((n : Int) != (n : Int)) = false := bne_self_eq_false _
  go_enter Try.func11,Try.ntmps11
  go_wp2
  go_loopw [5] (fun i wr => ∃ k : Nat,k ≤ n ∧ i = .int .i64 k ∧ Hid (xs.take k = ys.take k) ∧ Hid (Below w.heap.size w wr)) (fun i _ => n - (intOf i).toNat)
  case atStart => exact ⟨0,Nat.zero_le _,rfl,Lib.hid rfl,Lib.hid (Below.refl _ _)⟩
  case round =>
   obtain ⟨k,hk,rfl,HT,HBz⟩ := hrel
   by_cases hlt : k < n
   ·
    obtain ⟨a,oa,rfl⟩ := HA.out.at (by omega)
    obtain ⟨b,ob,rfl⟩ := HB.out.at (by omega)
    have hka : k < xs.length := HN.out ▸ hlt
    have hkb : k < ys.length := HM.out ▸ hlt
    have c1 := HA.out.row k hka
    have c2 := HB.out.row k hkb
    rw [← (bcell HBz.out).1 _ _ (cell_lt c1)] at c1
    rw [← (bcell HBz.out).1 _ _ (cell_lt c2)] at c2
    unfold bv at c1 c2
    have hlt' : (k : Int) < (n : Int) := by omega
    by_cases hxy : xs[k] = ys[k]
    ·
     have HT' : Hid (xs.take (k + 1) = ys.take (k + 1)) := Lib.hid (take_snoc HT.out hka hkb hxy)
     have hne : ((xs[k].toNat : Int) != (ys[k].toNat : Int)) = false := by rw [hxy]; simp
     clear hxy
     generalize xs[k] = x at *
     generalize ys[k] = y at *
     go_wp2
     go_quiet (fail)
     go_wp2
     go_roundw
     case rel => exact ⟨k + 1,by omega,by go_num,HT',Lib.hid (below_drewN HBz.out _)⟩
     case measure => simp [intOf]; omega
    ·
     have hne : ((xs[k].toNat : Int) != (ys[k].toNat : Int)) = true := by
      rw [bne_iff_ne]
      intro h
      exact hxy (UInt8.toNat_inj.1 (by omega))
     have HF : Hid (decide (xs = ys) = false) := Lib.hid (by
      rw [decide_eq_false_iff_not]
      intro h
      subst h
      exact hxy rfl)
     clear hxy
     generalize xs[k] = x at *
     generalize ys[k] = y at *
     go_wp2
     go_quiet (fail)
     go_wp2
     go_ret
     exact ⟨by rw [HF.out]; rfl,below_drewN HBz.out _⟩
   ·
    have HF : Hid (decide (xs = ys) = true) := Lib.hid (by
     rw [decide_eq_true_iff]
     have h1 := HT.out
     have h2 := HN.out
     have h3 := HM.out
     rwa [List.take_of_length_le (by omega),List.take_of_length_le (by omega)] at h1)
    go_wp2
    go_ret
    exact ⟨by rw [HF.out]; rfl,HBz.out⟩
 ·
  have HF : Hid (decide (xs = ys) = false) := Lib.hid (by
   rw [decide_eq_false_iff_not]
   intro h
   subst h
   exact hnm (HN.out.trans HM.out.symm))
  have hne : ((n : Int) != (m : Int)) = true := bne_iff_ne.2 (by omega)
  go_enter Try.func11,Try.ntmps11
  go_wp2
  go_ret
  exact ⟨by rw [HF.out]; rfl,Below.refl _ _⟩
theorem set_rest {L t : List UInt8} {n k : Nat} {v : UInt8} (hn : L.length = n) : (L ++ t).set (n + k) v = L ++ t.set k v := by
 subst hn
 rw [List.set_append_right _ _ (by omega),Nat.add_sub_cancel_left]
theorem take_set {t : List UInt8} {k : Nat} {v : UInt8} (hk : k < t.length) (h : t.take k = List.replicate k v) : (t.set k v).take (k + 1) = List.replicate (k + 1) v := by
 rw [List.take_succ_eq_append_getElem (by simpa using hk),List.take_set_of_le (Nat.le_refl k),h,List.replicate_succ']
 simp
set_option maxHeartbeats 2000000 in
theorem roomy (bs : List UInt8) (mark : UInt8) (ao : Option Addr) (n cap : Nat) (w : World) (hL : Ls w ao n cap bs) (hn : n ≤ 140737488355000) :
  Calls Try.prog 19 #[.slice ao n cap,bv mark] w fun e w' => e = .returned (.slice (some ⟨w.heap.size,0,none⟩) (n + 80) (n + 80)) ∧ Block w' w.heap.size (bs ++ List.replicate 80 mark) ∧ Below w.heap.size w w' := by
 have HL := Lib.hid hL
 have HN := Lib.hid hL.len
 have hcap := hL.reach
 have hfit := hL.fits
 clear hL
 have hmk := make (n + 80) (by omega)
 rw [show ((n + 80 : Nat) : Int) = (n : Int) + 80 from by omega] at hmk
 have hb0 := block_made w (n + 80)
 rw [← List.replicate_append_replicate] at hb0
 have hB1 := (Below.refl w.heap.size w).alloc (Nat.le_refl _) (.cells (zeros (n + 80)) 5)
 obtain ⟨W1,hcp,hblk,hbel,hsz⟩ := copy (w.alloc (.cells (zeros (n + 80)) 5)) w.heap.size 0 [] (List.replicate 80 0) (n + 80) ao n cap bs (by simpa using hb0) rfl HN.out (HL.out.below hB1).seg (some ⟨w.heap.size,0,none⟩) (fun _ => rfl)
 rw [List.length_replicate] at hcp
 rw [List.nil_append] at hblk
 have HB1 := Lib.hid (hbel _ _ hB1 (Nat.le_refl _))
 have HBk := Lib.hid hblk
 have HM : Hid (bv mark = .int .u8 (mark.toNat : Int)) := Lib.hid rfl
 clear hb0 hblk hbel hsz hB1
 rw [HM.out]
 go_enter Try.func19,Try.ntmps19
 go_wp2
 clear hmk hcp
 generalize (mark.toNat : Int) = mk at *
 go_loopw [6] (fun i wr => ∃ (k : Nat) (t : List UInt8),k ≤ 80 ∧ i = .int .i64 ((n : Int) + k) ∧ Hid (t.length = 80 ∧ t.take k = List.replicate k mark ∧ Block wr w.heap.size (bs ++ t)) ∧ Hid (Below w.heap.size w wr)) (fun i _ => (n : Int).toNat + 80 - (intOf i).toNat)
 case atStart => exact ⟨0,List.replicate 80 0,by omega,by go_num,Lib.hid ⟨by simp,rfl,HBk.out⟩,HB1⟩
 case round =>
  obtain ⟨k,t,hk,rfl,HT,HB⟩ := hrel
  by_cases hlt : k < 80
  ·
   have hkl : n + k < (bs ++ t).length := by rw [List.length_append,HT.out.1,← HN.out]; omega
   have hg := HT.out.2.2.row (n + k) hkl
   have hfz := HT.out.2.2.frozen (n + k)
   obtain ⟨v0,hv0⟩ : ∃ v0,bv (bs ++ t)[n + k] = v0 := ⟨_,rfl⟩
   rw [hv0] at hg
   clear hv0
   go_wp2
   go_roundw
   case rel =>
    refine ⟨k + 1,t.set k mark,by omega,by go_num,Lib.hid ⟨by simpa using HT.out.1,take_set (by rw [HT.out.1]; exact hlt) HT.out.2.1,?_⟩,Lib.hid (HB.out.setCell (p := ⟨w.heap.size,n + k,none⟩) (Nat.le_refl _) _)⟩
    have h := HT.out.2.2.store (n + k) mark
    rw [set_rest HN.out.symm,HM.out] at h
    exact h
   case measure => simp [intOf]; omega
  ·
   have HF : Hid (t = List.replicate 80 mark) := Lib.hid (by
    have h := HT.out.2.1
    rw [List.take_of_length_le (by rw [HT.out.1]; omega),show k = 80 by omega] at h
    exact h)
   go_wp2
   go_ret
   exact ⟨rfl,HF.out ▸ HT.out.2.2,HB.out⟩
set_option maxHeartbeats 2000000 in
theorem intact (bs : List UInt8) (mark : UInt8) (ao : Option Addr) (g n cap : Nat) (w : World) (hL : Ls w ao n cap bs) (hB : Block w g (bs ++ List.replicate 80 mark)) (hn : n ≤ 140737488355000) :
  Calls Try.prog 21 #[.slice (some ⟨g,0,none⟩) (n + 80) (n + 80),.slice ao n cap,bv mark] w fun e w' => e = .returned (.bool true) ∧ Below w.heap.size w w' := by
 have HL := Lib.hid hL
 have HN := Lib.hid hL.len
 have hcap := hL.reach
 have hfit := hL.fits
 have HBk := Lib.hid hB
 have hfl := hB.ls (by rw [List.length_append,List.length_replicate,← hL.len]; omega)
 rw [show (bs ++ List.replicate 80 mark).length = n + 80 by rw [List.length_append,List.length_replicate,← hL.len]] at hfl
 obtain ⟨hsl,hL1⟩ := hfl.to n (by omega)
 rw [List.take_left' hL.len.symm] at hL1
 have HL1 := Lib.hid hL1
 clear hL hB hfl hL1
 have hne : (((n : Int) + 80) != ((n : Int) + 80)) = false := bne_self_eq_false _
 unfold bv
 go_enter Try.func21,Try.ntmps21
 go_wp2_with fail
 refine (same_any bs bs _ _ _ _ _ _ w HL1.out HL.out).mono ?_
 rintro e w1 ⟨rfl,b1⟩
 have HB1 := Lib.hid b1
 have HBk1 := Lib.hid (HBk.out.below b1)
 rw [show decide (bs = bs) = true from decide_eq_true rfl]
 clear b1 hsl
 go_wp2_with fail
 go_loop [7] (fun i => ∃ k : Nat,k ≤ 80 ∧ i = .int .i64 ((n : Int) + k)) (fun i => (n : Int).toNat + 80 - (intOf i).toNat)
 case atStart => exact ⟨0,by omega,by go_num⟩
 case round =>
  obtain ⟨k,hk,rfl⟩ := hrel
  by_cases hlt : k < 80
  ·
   have hc : w1.cell? ⟨g,n + k,none⟩ = some (.int .u8 (mark.toNat : Int)) := by
    have hnb := HN.out
    rw [HBk1.out.row (n + k) (by rw [List.length_append,List.length_replicate]; omega),List.getElem_append_right (by omega),List.getElem_replicate]
    rfl
   have hxx : ((mark.toNat : Int) != (mark.toNat : Int)) = false := by simp
   go_wp2
   go_round
   case rel => exact ⟨k + 1,by omega,by go_num⟩
   case measure => simp [intOf]; omega
  ·
   go_wp2
   go_ret
   exact ⟨rfl,HB1.out⟩
end Go.Proofs.Ytagjbjppddbalaa.By
set_option linter.unusedVariables false
namespace Go.Proofs.Ytagjbjppddbalaa
open Go.RowKit
open Mem
theorem rows_keep {w u : World} {B e k : Nat} {v : Value} {n : Nat} {xs : List Value} (h : w.ownsRow B e k v n xs) (hb : ∀ g,v.ownBlock = some g → u.heap[g]? = w.heap[g]?) : u.ownsRow B e k v n xs := by
 obtain ⟨h1,h2⟩ := h
 refine ⟨h1,?_⟩
 rcases h2 with h2 | ⟨g,cap,cur,h',hB,hg,h3⟩
 · exact .inl h2
 · exact .inr ⟨g,cap,cur,h',hB,(hb g (by rw [h']; rfl)).trans hg,h3⟩
theorem rows_nil {w : World} {B e k : Nat} {v : Value} {n : Nat} {xs : List Value} (h : w.ownsRow B e k v n xs) (hn : v.ownBlock = none) : v = .slice none 0 0 ∧ n = 0 := by
 rcases h.2 with h2 | ⟨g,cap,cur,h',hB,hg,h3⟩
 · exact h2
 ·
  rw [h'] at hn
  cases hn
structure UpdQ (Q : Nat → Prop) (u v : World) : Prop where
 size : u.heap.size ≤ v.heap.size
 block : ∀ b,b < u.heap.size → ¬ Q b → v.heap[b]? = u.heap[b]?
 below : ∀ w0,Below w0.heap.size w0 u → (∀ b,Q b → w0.heap.size ≤ b) → Below w0.heap.size w0 v
theorem UpdQ.of {Q : Nat → Prop} {u v : World} (h : Below u.heap.size u v) : UpdQ Q u v := ⟨h.size,fun b hb _ => h.block b hb,fun _ k _ => bchain k h⟩
theorem UpdQ.refl (Q : Nat → Prop) (u : World) : UpdQ Q u u := UpdQ.of (Below.refl _ _)
theorem UpdQ.trans {Q : Nat → Prop} {u v w : World} (h : UpdQ Q u v) (k : UpdQ Q v w) : UpdQ Q u w :=
 ⟨Nat.le_trans h.size k.size,fun b hb hq => (k.block b (Nat.lt_of_lt_of_le hb h.size) hq).trans (h.block b hb hq),fun w0 a c => k.below w0 (h.below w0 a c) c⟩
theorem UpdQ.mono {Q R : Nat → Prop} {u v : World} (h : UpdQ Q u v) (k : ∀ b,Q b → R b) : UpdQ R u v := ⟨h.size,fun b hb hr => h.block b hb fun q => hr (k b q),fun w0 a c => h.below w0 a fun b q => c b (k b q)⟩
theorem UpdQ.set {Q : Nat → Prop} {g : Nat} (u : World) (hg : Q g) (o : Nat) (x : Value) : UpdQ Q u (u.setCell ⟨g,o,none⟩ x) :=
 ⟨by simp,fun b _ hq => heap_setCell_other u ⟨g,o,none⟩ b x (fun e => hq (by rw [show b = g from e]; exact hg)),fun w0 a c => a.setCell (c g hg) x⟩
theorem UpdQ.belowT {Q : Nat → Prop} {u v w : World} (h : UpdQ Q u v) (k : Below v.heap.size v w) : UpdQ Q u w := h.trans (UpdQ.of k)
theorem UpdQ.rows {Q : Nat → Prop} {u v : World} {B e k : Nat} {x : Value} {n : Nat} {xs : List Value} (f : UpdQ Q u v) (h : u.ownsRow B e k x n xs) (hQ : ∀ g,x.ownBlock = some g → ¬ Q g) : v.ownsRow B e k x n xs :=
 rows_keep h fun g hg => f.block g (World.ownsRow.lt h g hg).2 (hQ g hg)
def nw (P : Nat → Prop) (w : World) (b : Nat) : Prop := P b ∨ w.heap.size ≤ b
theorem nw_nw {P : Nat → Prop} {u w : World} (h : u.heap.size ≤ w.heap.size) (b : Nat) (k : nw (nw P u) w b) : nw P u b := k.elim id fun q => .inr (Nat.le_trans h q)
end Go.Proofs.Ytagjbjppddbalaa
set_option maxRecDepth 100000
namespace Go.Proofs.Ytagjbjppddbalaa
open Go.RowKit
open Mem
theorem Fm.le4 (a b c d : UInt8) : Crc.le [a,b,c,d] = a.toNat + 256 * (b.toNat + 256 * (c.toNat + 256 * (d.toNat + 256 * 0))) := rfl
theorem Fm.or_at (m x p : Nat) (hp : ∃ i,p = 2 ^ i) (hm : m < p) (hx : m + x * p < 4294967296) : bits .or .u32 (m : Int) ((x : Int) * (p : Int)) = ((m + x * p : Nat) : Int) := by
 obtain ⟨i,rfl⟩ := hp
 have h1 := Nat.two_pow_add_eq_or_of_lt hm x
 have h2 := u32_or_nat m (x * 2 ^ i) (by omega) (by omega)
 rw [Int.natCast_mul] at h2
 rw [h2,Nat.or_comm,Nat.mul_comm x,← h1,Nat.add_comm]
def Fm.over (bs xs : List UInt8) (o : Nat) : List UInt8 := bs.take o ++ xs ++ bs.drop (o + xs.length)
theorem Fm.over_len {bs xs : List UInt8} {o : Nat} (h : o + xs.length ≤ bs.length) : (Fm.over bs xs o).length = bs.length := by
 unfold Fm.over
 rw [List.length_append,List.length_append,List.length_take,List.length_drop]
 omega
theorem Fm.over_snoc {bs xs : List UInt8} {o : Nat} {y : UInt8} (h : o + xs.length < bs.length) : (Fm.over bs xs o).set (o + xs.length) y = Fm.over bs (xs ++ [y]) o := by
 unfold Fm.over
 have hl : (bs.take o ++ xs).length = o + xs.length := by
  rw [List.length_append,List.length_take]
  omega
 rw [List.set_append_right _ _ (by omega),hl,Nat.sub_self,List.drop_eq_getElem_cons h,List.set_cons_zero,List.length_append,List.length_singleton,← Nat.add_assoc,List.append_assoc,List.append_assoc,List.append_assoc,List.singleton_append]
end Go.Proofs.Ytagjbjppddbalaa
namespace Go.Proofs.Ytagjbjppddbalaa
open Go.RowKit
open Mem
def Fm.frame (p : List UInt8) : List UInt8 := Crc.four p.length ++ p ++ Crc.four (Crc.on 0 (Crc.four p.length ++ p))
def Fm.put (b p : List UInt8) : List UInt8 := if p.length = 0 ∨ 131072 < p.length then b else b ++ Fm.frame p
theorem Fm.four_len (n : Nat) : (Crc.four n).length = 4 := rfl
theorem Fm.over_at (a b c x : List UInt8) (h : b.length = x.length) : Fm.over (a ++ b ++ c) x a.length = a ++ x ++ c := by
 unfold Fm.over
 rw [show a ++ b ++ c = a ++ (b ++ c) from List.append_assoc _ _ _,List.take_left' rfl,← h,← List.drop_drop,List.drop_left' rfl,List.drop_left' rfl]
theorem Fm.seg_mid {w : World} {g : Nat} {a x c : List UInt8} {n : Nat} (h : By.Block w g (a ++ x ++ c)) (hn : n = a.length) : Seg w (some ⟨g,n,none⟩) x := by
 refine .inr ⟨g,n,rfl,fun k hk => ?_⟩
 have hi : n + k < (a ++ x ++ c).length := by
  rw [List.length_append,List.length_append]
  omega
 have h1 := h.row (n + k) hi
 have e : (a ++ x ++ c)[n + k] = x[k] := by
  rw [List.getElem_append_left (by rw [List.length_append]; omega),List.getElem_append_right (by omega)]
  congr 1
  omega
 rw [e] at h1
 exact h1
def Fm.PutE (w : World) (bs : List UInt8) (e : Ending) (w' : World) : Prop := ∃ g,e = .returned (.slice (some ⟨g,0,none⟩) bs.length bs.length) ∧ By.Block w' g bs ∧ w.heap.size ≤ g ∧ Below w.heap.size w w'
end Go.Proofs.Ytagjbjppddbalaa
namespace Go.Proofs.Ytagjbjppddbalaa
open Go.RowKit
open Mem
def Fm.nextF (f : List UInt8) : List UInt8 × Nat × Nat :=
 if f.length < 4 then ([],0,3) else if Crc.le (f.take 4) = 0 ∨ 131072 < Crc.le (f.take 4) then ([],0,4) else
 if f.length < Crc.le (f.take 4) + 8 then ([],0,3) else
 if Crc.on 0 (f.take (4 + Crc.le (f.take 4))) ≠ Crc.le ((f.drop (4 + Crc.le (f.take 4))).take 4) then ([],0,6) else
 ((f.drop 4).take (Crc.le (f.take 4)),Crc.le (f.take 4) + 8,0)
def Fm.NextE (w : World) (bs : List UInt8) (i : Int) (e : Ending) (w' : World) : Prop :=
 Below w.heap.size w w' ∧ (((i < 0 ∨ (bs.length : Int) < i) ∧ e = .returned (.tuple #[.slice none 0 0,.int .i64 0,.int .i64 1])) ∨
  ∃ k : Nat,i = (k : Int) ∧ k ≤ bs.length ∧ (((Fm.nextF (bs.drop k)).2.2 ≠ 0 ∧ e = .returned (.tuple #[.slice none 0 0,.int .i64 0,.int .i64 ((Fm.nextF (bs.drop k)).2.2 : Nat)])) ∨
   ((Fm.nextF (bs.drop k)).2.2 = 0 ∧ ∃ g,w.heap.size ≤ g ∧ By.Block w' g (Fm.nextF (bs.drop k)).1 ∧ e = .returned (.tuple #[.slice (some ⟨g,0,none⟩) (Fm.nextF (bs.drop k)).1.length (Fm.nextF (bs.drop k)).1.length,.int .i64 ((k + (Fm.nextF (bs.drop k)).2.1 : Nat) : Int),.int .i64 0]))))
theorem Fm.four_of {f : List UInt8} (h : 4 ≤ f.length) : ∃ a b c d : UInt8,f.take 4 = [a,b,c,d] ∧ f[0]? = some a ∧ f[1]? = some b ∧ f[2]? = some c ∧ f[3]? = some d := by
 match f,h with
 | a :: b :: c :: d :: l,_ => exact ⟨a,b,c,d,rfl,rfl,rfl,rfl,rfl⟩
theorem Fm.byte {w : World} {b off n cap : Nat} {bs : List UInt8} (h : By.Ls w (some ⟨b,off,none⟩) n cap bs) {i : Nat} {x : UInt8} (hx : bs[i]? = some x) : w.cell? ⟨b,off + i,none⟩ = some (.int .u8 (x.toNat : Int)) := by
 obtain ⟨hl,e⟩ := List.getElem?_eq_some_iff.1 hx
 have := h.row i hl
 rw [e] at this
 exact this
theorem Fm.part {w : World} {b off n cap : Nat} {bs : List UInt8} (h : By.Ls w (some ⟨b,off,none⟩) n cap bs) (k m c : Nat) (hk : k + m ≤ n) (hc : m ≤ c) (hr : c ≤ 9223372036854775807) : By.Ls w (some ⟨b,off + k,none⟩) m c ((bs.drop k).take m) := by
 have hl := h.len
 refine ⟨by rw [List.length_take,List.length_drop]; omega,hc,hr,(fun z => by cases z),.inr ⟨b,off + k,rfl,fun i hi => ?_⟩⟩
 rw [List.length_take,List.length_drop] at hi
 have h1 := h.row (k + i) (by omega)
 rw [List.getElem_take,List.getElem_drop,Nat.add_assoc]
 exact h1
end Go.Proofs.Ytagjbjppddbalaa
namespace Go.Proofs.Ytagjbjppddbalaa.Et
open Go.RowKit
open Mem
structure T where
 term : Int
 mem : Int
 data : ByteArray
def val (r : T) : Value := .agg #[.int .i64 r.term,.int .i64 r.mem,.string r.data]
def Short (r : T) : Prop := Fit r.term ∧ Fit r.mem ∧ r.data.size ≤ 140737488355328
def box (w : World) (r : T) : World := w.alloc (.cells #[.int .i64 r.term,.int .i64 r.mem,.string r.data] 36)
def C (u : World) (b : Nat) (r : T) : Prop :=
 u.cell? ⟨b,0,none⟩ = some (.int .i64 r.term) ∧ u.cell? ⟨b,1,none⟩ = some (.int .i64 r.mem) ∧ u.cell? ⟨b,2,none⟩ = some (.string r.data)
theorem C.below {u v : World} {b : Nat} {r : T} (h : C u b r) (k : Below u.heap.size u v) : C v b r := by
 obtain ⟨h0,h1,h2⟩ := h
 have hl := cell_lt h0
 unfold C
 rw [(bcell k).1 _ _ hl,(bcell k).1 _ _ hl,(bcell k).1 _ _ hl]
 exact ⟨h0,h1,h2⟩
theorem c_box (w : World) (r : T) : C (box w r) w.heap.size r := by
 unfold box C
 simp [go_sem]
theorem box_size (w : World) (r : T) : (box w r).heap.size = w.heap.size + 1 := by
 unfold box
 simp
theorem below_own (w : World) (r : T) : Below w.heap.size w (box w r) := (Below.refl _ _).alloc (Nat.le_refl _) _
theorem boxed1 (w : World) (a : T) : ∃ W,w.alloc (.cells #[.int .i64 a.term,.int .i64 a.mem,.string a.data] 36) = W ∧ Below w.heap.size w W ∧ C W w.heap.size a :=
 ⟨_,rfl,below_own w a,c_box w a⟩
theorem boxed2 (w : World) (a b : T) : ∃ W,(w.alloc (.cells #[.int .i64 a.term,.int .i64 a.mem,.string a.data] 36)).alloc (.cells #[.int .i64 b.term,.int .i64 b.mem,.string b.data] 36) = W ∧
  Below w.heap.size w W ∧ C W w.heap.size a ∧ C W (w.heap.size + 1) b := by
 refine ⟨_,rfl,((below_own w a).trans ((below_own (box w a) b).mono (below_own w a).size)),(c_box w a).below (below_own _ b),?_⟩
 have h := c_box (box w a) b
 rw [box_size] at h
 exact h
end Go.Proofs.Ytagjbjppddbalaa.Et
namespace Go.Proofs.Ytagjbjppddbalaa.Wl
open Pk
structure H where
 term : Int
 vote : Int
 base : Int
 bt : Int
 mem : Int
 snap : ByteArray
 log : List Et.T
def H.with (h : H) (l : List Et.T) : H := ⟨h.term,h.vote,h.base,h.bt,h.mem,h.snap,l⟩
def H.bare (h : H) : H := ⟨h.term,h.vote,h.base,h.bt,h.mem,.empty,h.log⟩
def within (n lo hi : Int) : Bool := decide (lo ≤ n) && decide (n ≤ hi)
def top : Int := 1099511627776
def headed (h : H) : Bool := within h.term 0 top && (within h.vote (-1) 6 && (within h.base 0 top && (within h.bt 0 h.term && (((h.bt == 0) == (h.base == 0)) && within h.mem 1 127))))
def last (h : H) : Int := h.base + (h.log.length : Int)
def lastTerm (h : H) : Int := (h.log.getLast?.map Et.T.term).getD h.bt
def fits (h : H) (e : Et.T) : Bool := decide (h.log.length < 200) && (decide (last h < top) && (within e.term (max 1 (lastTerm h)) h.term && (within e.mem 0 127 && (decide (e.data.size ≤ 1100) && ((e.mem == 0) || decide (e.data.size = 0))))))
def more (h : H) : List Et.T → Bool
 | [] => true
 | e :: l => fits h e && more (h.with (h.log ++ [e])) l
def snapOk (h : H) : Bool := (decide (h.snap.size = 0) == (h.base == 0)) && decide (h.snap.size ≤ 65536)
def right (h : H) : Bool := headed h && (snapOk h && more (h.with []) h.log)
inductive Rec where
 | beg (term vote base bt mem : Int)
 | ent (e : Et.T)
 | rdy
 | vot (term vote : Int)
 | cut (n : Int)
def Rec.Ok : Rec → Prop
 | .beg t v b c m => Fit t ∧ Fit v ∧ Fit b ∧ Fit c ∧ Fit m
 | .ent e => Fit e.term ∧ Fit e.mem ∧ e.data.size ≤ 1100
 | .rdy => True
 | .vot t v => Fit t ∧ Fit v
 | .cut n => Fit n
def pay : Rec → List UInt8
 | .beg t v b c m => nm 1 ++ (nm t ++ (nm v ++ (nm b ++ (nm c ++ nm m))))
 | .ent e => nm 2 ++ (nm e.term ++ (nm e.mem ++ tx e.data))
 | .rdy => nm 3
 | .vot t v => nm 4 ++ (nm t ++ nm v)
 | .cut n => nm 5 ++ nm n
def fin (bs : List UInt8) (s : St) (r : Rec) : Option Rec := if (rEnd bs s).1 = 0 then some r else none
def parseB (bs : List UInt8) (s : St) : Option Rec :=
 fin bs (rNum bs (rNum bs (rNum bs (rNum bs (rNum bs s).2).2).2).2).2 (.beg (rNum bs s).1 (rNum bs (rNum bs s).2).1 (rNum bs (rNum bs (rNum bs s).2).2).1 (rNum bs (rNum bs (rNum bs (rNum bs s).2).2).2).1 (rNum bs (rNum bs (rNum bs (rNum bs (rNum bs s).2).2).2).2).1)
def parseE (bs : List UInt8) (s : St) : Option Rec :=
 fin bs (rText bs 1100 (rNum bs (rNum bs s).2).2).2 (.ent ⟨(rNum bs s).1,(rNum bs (rNum bs s).2).1,(rText bs 1100 (rNum bs (rNum bs s).2).2).1⟩)
def parseV (bs : List UInt8) (s : St) : Option Rec := fin bs (rNum bs (rNum bs s).2).2 (.vot (rNum bs s).1 (rNum bs (rNum bs s).2).1)
def parseC (bs : List UInt8) (s : St) : Option Rec := fin bs (rNum bs s).2 (.cut (rNum bs s).1)
def parse (bs : List UInt8) : Option Rec :=
 if (rNum bs s0).1 = 1 then parseB bs (rNum bs s0).2 else if (rNum bs s0).1 = 2 then parseE bs (rNum bs s0).2 else if (rNum bs s0).1 = 3 then fin bs (rNum bs s0).2 .rdy
 else if (rNum bs s0).1 = 4 then parseV bs (rNum bs s0).2 else if (rNum bs s0).1 = 5 then parseC bs (rNum bs s0).2 else none
theorem fit_small {n : Int} (h : 0 ≤ n) (k : n ≤ 1000) : Fit n := ⟨by omega,by omega⟩
theorem fin_ok {bs : List UInt8} {s : St} {r : Rec} (h : Rem bs s []) : fin bs s r = some r := if_pos (rem_end h)
theorem parse_pay {r : Rec} (h : r.Ok) : parse (pay r) = some r := by
 have h0 := rem_start (pay r)
 unfold parse
 cases r with
 | beg t v b c m =>
  obtain ⟨k1,k2,k3,k4,k5⟩ := h
  obtain ⟨e0,h1⟩ := fwd_num (n := 1) h0 (fit_small (by omega) (by omega))
  rw [if_pos e0]
  obtain ⟨e1,h2⟩ := fwd_num h1 k1
  obtain ⟨e2,h3⟩ := fwd_num h2 k2
  obtain ⟨e3,h4⟩ := fwd_num h3 k3
  obtain ⟨e4,h5⟩ := fwd_num h4 k4
  obtain ⟨e5,h6⟩ := fwd_num (r := []) (by rw [List.append_nil]; exact h5) k5
  unfold parseB
  rw [fin_ok h6,e1,e2,e3,e4,e5]
 | ent e =>
  obtain ⟨k1,k2,k3⟩ := h
  obtain ⟨e0,h1⟩ := fwd_num (n := 2) h0 (fit_small (by omega) (by omega))
  rw [if_neg (by omega),if_pos e0]
  obtain ⟨e1,h2⟩ := fwd_num h1 k1
  obtain ⟨e2,h3⟩ := fwd_num h2 k2
  obtain ⟨e3,h4⟩ := fwd_text (most := 1100) (r := []) (by rw [List.append_nil]; exact h3) (by omega) (by omega)
  unfold parseE
  rw [fin_ok h4,e1,e2,e3]
 | rdy =>
  obtain ⟨e0,h1⟩ := fwd_num (n := 3) (r := []) (by rw [List.append_nil]; exact h0) (fit_small (by omega) (by omega))
  rw [if_neg (by omega),if_neg (by omega),if_pos e0,fin_ok h1]
 | vot t v =>
  obtain ⟨k1,k2⟩ := h
  obtain ⟨e0,h1⟩ := fwd_num (n := 4) h0 (fit_small (by omega) (by omega))
  rw [if_neg (by omega),if_neg (by omega),if_neg (by omega),if_pos e0]
  obtain ⟨e1,h2⟩ := fwd_num h1 k1
  obtain ⟨e2,h3⟩ := fwd_num (r := []) (by rw [List.append_nil]; exact h2) k2
  unfold parseV
  rw [fin_ok h3,e1,e2]
 | cut n =>
  obtain ⟨e0,h1⟩ := fwd_num (n := 5) h0 (fit_small (by omega) (by omega))
  rw [if_neg (by omega),if_neg (by omega),if_neg (by omega),if_neg (by omega),if_pos e0]
  obtain ⟨e1,h2⟩ := fwd_num (r := []) (by rw [List.append_nil]; exact h1) h
  unfold parseC
  rw [fin_ok h2,e1]
structure Sg where
 h : H
 begun : Bool
 ready : Bool
def empty : Sg := ⟨⟨0,-1,0,0,0,.empty,[]⟩,false,false⟩
def Sg.with (s : Sg) (h : H) : Sg := ⟨h,s.begun,s.ready⟩
def beginS (s : Sg) (h : H) : Option Sg := if s.begun = true then none else if headed h = false then none else some ⟨h,true,s.ready⟩
def addS (s : Sg) (e : Et.T) : Option Sg := if s.begun = false then none else if fits s.h e = false then none else some (s.with (s.h.with (s.h.log ++ [e])))
def closeS (s : Sg) : Option Sg := if s.begun = false then none else if s.ready = true then none else some ⟨s.h,s.begun,true⟩
def H.vote' (h : H) (t v : Int) : H := ⟨t,v,h.base,h.bt,h.mem,h.snap,h.log⟩
def voteS (s : Sg) (t v : Int) : Option Sg :=
 if s.ready = false then none else if t < s.h.term then none else if t = s.h.term ∧ s.h.vote ≠ -1 then none else if headed (s.h.vote' t v) = false then none else some (s.with (s.h.vote' t v))
def cutS (s : Sg) (n : Int) : Option Sg := if s.ready = false then none else if within n s.h.base (last s.h) = false then none else some (s.with (s.h.with (s.h.log.take (n - s.h.base).toNat)))
def step (s : Sg) : Rec → Option Sg
 | .beg t v b c m => beginS s ⟨t,v,b,c,m,.empty,[]⟩
 | .ent e => addS s e
 | .rdy => closeS s
 | .vot t v => voteS s t v
 | .cut n => cutS s n
def take (s : Sg) (p : List UInt8) : Option Sg := (parse p).bind (step s)
def readF : Nat → Sg → List UInt8 → Sg × Nat
 | 0,s,_ => (s,0)
 | k + 1,s,bs => if (Fm.nextF bs).2.2 ≠ 0 then (s,0) else match take s (Fm.nextF bs).1 with
  | none => (s,0)
  | some s' => ((readF k s' (bs.drop (Fm.nextF bs).2.1)).1,(Fm.nextF bs).2.1 + (readF k s' (bs.drop (Fm.nextF bs).2.1)).2)
def read (bs : List UInt8) : Sg × Nat := readF (bs.length + 1) empty bs
def runAll (s : Sg) : List (List UInt8) → Sg
 | [] => s
 | p :: l => runAll ((take s p).getD s) l
def frames : List (List UInt8) → List UInt8
 | [] => []
 | p :: l => Fm.frame p ++ frames l
def ents (l : List Et.T) : List Rec := l.map .ent
def whole (h : H) : List Rec := .beg h.term h.vote h.base h.bt h.mem :: (ents h.log ++ [.rdy])
def begun : List Et.T → List Et.T → Nat
 | a :: l,b :: m => if a.term = b.term ∧ a.mem = b.mem ∧ a.data = b.data then begun l m + 1 else 0
 | _,_ => 0
def change (was h : H) : List Rec :=
 (if h.term ≠ was.term ∨ h.vote ≠ was.vote then [.vot h.term h.vote] else []) ++ ((if begun was.log h.log < was.log.length then [.cut (h.base + (begun was.log h.log : Int))] else []) ++ ents (h.log.drop (begun was.log h.log)))
def pays (l : List Rec) : List (List UInt8) := l.map pay
end Go.Proofs.Ytagjbjppddbalaa.Wl
namespace Go.Proofs.Ytagjbjppddbalaa.Lr
open Pk
structure M where
 kind : Int
 frm : Int
 to : Int
 term : Int
 idx : Int
 bt : Int
 com : Int
 mem : Int
 off : Int
 size : Int
 yes : Bool
 data : ByteArray
 ents : List Et.T
def zeroM : M := ⟨0,0,0,0,0,0,0,0,0,0,false,.empty,[]⟩
def flB (b : Bool) : List UInt8 := Wl.nm (if b = true then 1 else 0)
def entB (e : Et.T) : List UInt8 := Wl.nm e.term ++ (Wl.nm e.mem ++ Wl.tx e.data)
def entsB : List Et.T → List UInt8
 | [] => []
 | e :: l => entB e ++ entsB l
theorem entsB_app : ∀ a b : List Et.T,entsB (a ++ b) = entsB a ++ entsB b
 | [],_ => rfl
 | x :: a,b => by rw [List.cons_append,entsB,entsB,entsB_app a b,List.append_assoc]
def numsB : List Int → List UInt8
 | [] => []
 | n :: l => Wl.nm n ++ numsB l
theorem numsB_app : ∀ a b : List Int,numsB (a ++ b) = numsB a ++ numsB b
 | [],_ => rfl
 | x :: a,b => by rw [List.cons_append,numsB,numsB,numsB_app a b,List.append_assoc]
def M.ten (m : M) : List Int := [m.kind,m.frm,m.to,m.term,m.idx,m.bt,m.com,m.mem,m.off,m.size]
def M.bytes (m : M) : List UInt8 := numsB m.ten ++ (flB m.yes ++ (Wl.tx m.data ++ (Wl.nm (m.ents.length : Int) ++ entsB m.ents)))
def rFlag (bs : List UInt8) (s : St) : Bool × St := if (rNum bs s).1 ≠ 0 ∧ (rNum bs s).1 ≠ 1 then (false,⟨s.at',4⟩) else (decide ((rNum bs s).1 = 1),(rNum bs s).2)
def rEnt (bs : List UInt8) (s : St) : Et.T × St :=
 (⟨(rNum bs s).1,(rNum bs (rNum bs s).2).1,(rText bs 1100 (rNum bs (rNum bs s).2).2).1⟩,(rText bs 1100 (rNum bs (rNum bs s).2).2).2)
def rEnts (bs : List UInt8) : Nat → St → List Et.T × St
 | 0,s => ([],s)
 | k + 1,s => ((rEnt bs s).1 :: (rEnts bs k (rEnt bs s).2).1,(rEnts bs k (rEnt bs s).2).2)
def sN (bs : List UInt8) (s : St) : Nat → St
 | 0 => s
 | k + 1 => (rNum bs (sN bs s k)).2
def vN (bs : List UInt8) (s : St) (k : Nat) : Int := (rNum bs (sN bs s k)).1
def sF (bs : List UInt8) (s : St) : St := (rFlag bs (sN bs s 10)).2
def sT (bs : List UInt8) (s : St) : St := (rText bs 600 (sF bs s)).2
def sC (bs : List UInt8) (s : St) : St := (rCount bs 8 (sT bs s)).2
def nC (bs : List UInt8) (s : St) : Nat := (rCount bs 8 (sT bs s)).1.toNat
def rM (bs : List UInt8) (s : St) : M :=
 ⟨vN bs s 0,vN bs s 1,vN bs s 2,vN bs s 3,vN bs s 4,vN bs s 5,vN bs s 6,vN bs s 7,vN bs s 8,vN bs s 9,(rFlag bs (sN bs s 10)).1,(rText bs 600 (sF bs s)).1,(rEnts bs (nC bs s) (sC bs s)).1⟩
def eM (bs : List UInt8) (s : St) : St := (rEnts bs (nC bs s) (sC bs s)).2
def headB (m : M) : Bool := Wl.within m.frm 0 6 && (Wl.within m.to 0 6 && (decide (m.frm ≠ m.to) && (Wl.within m.term 1 Wl.top && (Wl.within m.idx 0 Wl.top && (Wl.within m.bt 0 m.term && Wl.within m.com 0 Wl.top)))))
structure Co where
 idx : Int
 bt : Int
 com : Int
 mem : Int
 off : Int
 size : Int
 yes : Bool
 data : ByteArray
 n : Int
def allM (m : M) : Co := ⟨m.idx,m.bt,m.com,m.mem,m.off,m.size,m.yes,m.data,(m.ents.length : Int)⟩
def namedM (m : M) : Co :=
 if m.kind = 1 then ⟨m.idx,m.bt,0,0,0,0,false,.empty,0⟩
 else if m.kind = 2 then ⟨0,0,0,0,0,0,m.yes,.empty,0⟩
 else if m.kind = 3 then ⟨m.idx,m.bt,m.com,0,0,0,false,.empty,(m.ents.length : Int)⟩
 else if m.kind = 4 then ⟨m.idx,0,0,0,0,0,m.yes,.empty,0⟩
 else if m.kind = 5 then ⟨m.idx,m.bt,0,m.mem,m.off,m.size,false,m.data,0⟩
 else if m.kind = 6 then ⟨m.idx,0,0,0,m.off,0,false,.empty,0⟩
 else ⟨0,0,0,0,0,0,false,.empty,0⟩
def Co.eqB (a b : Co) : Bool := decide (a.idx = b.idx ∧ a.bt = b.bt ∧ a.com = b.com ∧ a.mem = b.mem ∧ a.off = b.off ∧ a.size = b.size ∧ a.yes = b.yes ∧ a.data = b.data ∧ a.n = b.n)
theorem Co.eqB_iff (a b : Co) : Co.eqB a b = true ↔ a = b := by
 unfold Co.eqB
 rw [decide_eq_true_iff]
 constructor
 ·
  rintro ⟨h1,h2,h3,h4,h5,h6,h7,h8,h9⟩
  cases a
  cases b
  simp_all
 ·
  rintro rfl
  simp
def bareB (m : M) : Bool := Co.eqB (allM m) (namedM m)
def pieceB (m : M) : Bool := Wl.within m.size 1 65536 && (Wl.within m.off 0 (m.size - 1) && Wl.within (m.data.size : Int) 1 (min 600 (m.size - m.off)))
def toldH (m : M) : Wl.H := ⟨m.term, 0, m.idx, m.bt, 127, if m.idx = 0 then .empty else "any".toByteArray, m.ents⟩
def fitsB (m : M) : Bool :=
 if m.kind = 2 then true
 else if m.kind = 4 then true
 else if m.kind = 1 then decide (m.ents.length ≤ 8) && Wl.right (toldH m)
 else if m.kind = 3 then decide (m.ents.length ≤ 8) && Wl.right (toldH m)
 else if m.kind = 5 then decide (m.idx ≠ 0) && (decide (m.bt ≠ 0) && (Wl.within m.mem 1 127 && pieceB m))
 else if m.kind = 6 then decide (m.idx ≠ 0) && Wl.within m.off 0 65536
 else false
def rightB (m : M) : Bool := headB m && (bareB m && fitsB m)
def putM (m : M) : List UInt8 := if rightB m = true then m.bytes else []
def getE (bs : List UInt8) : Int := if (rEnd bs (eM bs Wl.s0)).1 ≠ 0 then (rEnd bs (eM bs Wl.s0)).1 else if rightB (rM bs Wl.s0) = true then 0 else 4
def getM (bs : List UInt8) : M := if (rEnd bs (eM bs Wl.s0)).1 = 0 ∧ rightB (rM bs Wl.s0) = true then rM bs Wl.s0 else zeroM
theorem more_row : ∀ (l : List Et.T) (h : Wl.H),Wl.more h l = true → ∀ e ∈ l,(1 ≤ e.term ∧ e.term ≤ h.term) ∧ (0 ≤ e.mem ∧ e.mem ≤ 127) ∧ e.data.size ≤ 1100
 | [],_,_,e,he => by cases he
 | x :: l,h,k,e,he => by
  rw [Wl.more,Bool.and_eq_true] at k
  rcases List.mem_cons.1 he with rfl | he
  ·
   have k1 := k.1
   unfold Wl.fits Wl.within at k1
   simp only [Bool.and_eq_true,decide_eq_true_eq] at k1
   omega
  · exact more_row l _ k.2 e he
structure Ok (m : M) : Prop where
 kind : 1 ≤ m.kind ∧ m.kind ≤ 6
 frm : 0 ≤ m.frm ∧ m.frm ≤ 6
 to : 0 ≤ m.to ∧ m.to ≤ 6
 term : 1 ≤ m.term ∧ m.term ≤ 1099511627776
 idx : 0 ≤ m.idx ∧ m.idx ≤ 1099511627776
 bt : 0 ≤ m.bt ∧ m.bt ≤ m.term
 com : 0 ≤ m.com ∧ m.com ≤ 1099511627776
 mem : 0 ≤ m.mem ∧ m.mem ≤ 127
 off : 0 ≤ m.off ∧ m.off ≤ 65536
 size : 0 ≤ m.size ∧ m.size ≤ 65536
 data : m.data.size ≤ 600
 n : m.ents.length ≤ 8
 ents : ∀ e ∈ m.ents,(1 ≤ e.term ∧ e.term ≤ m.term) ∧ (0 ≤ e.mem ∧ e.mem ≤ 127) ∧ e.data.size ≤ 1100
theorem ok_of {m : M} (h : rightB m = true) : Ok m := by
 unfold rightB at h
 rw [Bool.and_eq_true,Bool.and_eq_true] at h
 obtain ⟨h1,h2,h3⟩ := h
 unfold headB Wl.within Wl.top at h1
 simp only [Bool.and_eq_true,decide_eq_true_eq] at h1
 obtain ⟨a1,a2,a3,a4,a5,a6,a7⟩ := h1
 have hb : allM m = namedM m := (Co.eqB_iff _ _).1 h2
 have hk : 1 ≤ m.kind ∧ m.kind ≤ 6 := by
  unfold fitsB at h3
  by_cases k1 : m.kind = 2
  · omega
  by_cases k2 : m.kind = 4
  · omega
  by_cases k3 : m.kind = 1
  · omega
  by_cases k4 : m.kind = 3
  · omega
  by_cases k5 : m.kind = 5
  · omega
  by_cases k6 : m.kind = 6
  · omega
  rw [if_neg k1,if_neg k2,if_neg k3,if_neg k4,if_neg k5,if_neg k6] at h3
  cases h3
 have es : ByteArray.empty.size = 0 := rfl
 have hn : ∀ k : Nat,(m.ents.length : Int) = 0 → m.ents = [] := fun _ z => List.length_eq_zero_iff.1 (by omega)
 have hlog : (decide (m.ents.length ≤ 8) && Wl.right (toldH m)) = true → m.ents.length ≤ 8 ∧ ∀ e ∈ m.ents,(1 ≤ e.term ∧ e.term ≤ m.term) ∧ (0 ≤ e.mem ∧ e.mem ≤ 127) ∧ e.data.size ≤ 1100 := by
  intro z
  rw [Bool.and_eq_true,decide_eq_true_eq] at z
  refine ⟨z.1,fun e he => ?_⟩
  have z2 := z.2
  unfold Wl.right at z2
  rw [Bool.and_eq_true,Bool.and_eq_true] at z2
  exact more_row m.ents _ z2.2.2 e he
 have hk6 : m.kind = 1 ∨ m.kind = 2 ∨ m.kind = 3 ∨ m.kind = 4 ∨ m.kind = 5 ∨ m.kind = 6 := by omega
 unfold fitsB at h3
 unfold allM namedM at hb
 rcases hk6 with k | k | k | k | k | k
 ·
  simp only [k,if_true,if_neg (show ¬ (1 : Int) = 2 by decide),if_neg (show ¬ (1 : Int) = 4 by decide)] at h3 hb
  injection hb with b1 b2 b3 b4 b5 b6 b7 b8 b9
  obtain ⟨z1,z2⟩ := hlog h3
  exact ⟨hk,a1,a2,a4,a5,a6,a7,by omega,by omega,by omega,by rw [b8,es]; omega,z1,z2⟩
 ·
  simp only [k,if_true,if_neg (show ¬ (2 : Int) = 1 by decide)] at hb
  injection hb with b1 b2 b3 b4 b5 b6 b7 b8 b9
  have e := hn 0 b9
  exact ⟨hk,a1,a2,a4,a5,a6,a7,by omega,by omega,by omega,by rw [b8,es]; omega,by omega,by rw [e]; intro e he; cases he⟩
 ·
  simp only [k,if_true,if_neg (show ¬ (3 : Int) = 1 by decide),if_neg (show ¬ (3 : Int) = 2 by decide),if_neg (show ¬ (3 : Int) = 4 by decide)] at h3 hb
  injection hb with b1 b2 b3 b4 b5 b6 b7 b8 b9
  obtain ⟨z1,z2⟩ := hlog h3
  exact ⟨hk,a1,a2,a4,a5,a6,a7,by omega,by omega,by omega,by rw [b8,es]; omega,z1,z2⟩
 ·
  simp only [k,if_true,if_neg (show ¬ (4 : Int) = 1 by decide),if_neg (show ¬ (4 : Int) = 2 by decide),if_neg (show ¬ (4 : Int) = 3 by decide)] at hb
  injection hb with b1 b2 b3 b4 b5 b6 b7 b8 b9
  have e := hn 0 b9
  exact ⟨hk,a1,a2,a4,a5,a6,a7,by omega,by omega,by omega,by rw [b8,es]; omega,by omega,by rw [e]; intro e he; cases he⟩
 ·
  simp only [k,if_true,if_neg (show ¬ (5 : Int) = 1 by decide),if_neg (show ¬ (5 : Int) = 2 by decide),if_neg (show ¬ (5 : Int) = 3 by decide),if_neg (show ¬ (5 : Int) = 4 by decide)] at h3 hb
  injection hb with b1 b2 b3 b4 b5 b6 b7 b8 b9
  have e := hn 0 b9
  unfold pieceB Wl.within at h3
  simp only [Bool.and_eq_true,decide_eq_true_eq] at h3
  exact ⟨hk,a1,a2,a4,a5,a6,a7,by omega,by omega,by omega,by omega,by omega,by rw [e]; intro e he; cases he⟩
 ·
  simp only [k,if_true,if_neg (show ¬ (6 : Int) = 1 by decide),if_neg (show ¬ (6 : Int) = 2 by decide),if_neg (show ¬ (6 : Int) = 3 by decide),if_neg (show ¬ (6 : Int) = 4 by decide),if_neg (show ¬ (6 : Int) = 5 by decide)] at h3 hb
  injection hb with b1 b2 b3 b4 b5 b6 b7 b8 b9
  have e := hn 0 b9
  unfold Wl.within at h3
  simp only [Bool.and_eq_true,decide_eq_true_eq] at h3
  exact ⟨hk,a1,a2,a4,a5,a6,a7,by omega,by omega,by omega,by rw [b8,es]; omega,by omega,by rw [e]; intro e he; cases he⟩
end Go.Proofs.Ytagjbjppddbalaa.Lr
namespace Go.Proofs.Ytagjbjppddbalaa.Mem
structure Sl where
 ao : Option Addr
 n : Nat
 cap : Nat
end Go.Proofs.Ytagjbjppddbalaa.Mem
namespace Go.Proofs.Ytagjbjppddbalaa.Lr
open Go.RowKit
open Mem
structure T where
 kind : Int
 frm : Int
 to : Int
 term : Int
 idx : Int
 bt : Int
 com : Int
 mem : Int
 off : Int
 size : Int
 yes : Bool
 data : ByteArray
 ents : Sl
def val (r : T) : Value := .agg #[.int .i64 r.kind,.int .i64 r.frm,.int .i64 r.to,.int .i64 r.term,.int .i64 r.idx,.int .i64 r.bt,.int .i64 r.com,.int .i64 r.mem,.int .i64 r.off,.int .i64 r.size,.bool r.yes,.string r.data,.slice r.ents.ao r.ents.n r.ents.cap]
def Short (r : T) : Prop := Fit r.kind ∧ Fit r.frm ∧ Fit r.to ∧ Fit r.term ∧ Fit r.idx ∧ Fit r.bt ∧ Fit r.com ∧ Fit r.mem ∧ Fit r.off ∧ Fit r.size ∧ r.data.size ≤ 140737488355328
def box (w : World) (r : T) : World := w.alloc (.cells #[.int .i64 r.kind,.int .i64 r.frm,.int .i64 r.to,.int .i64 r.term,.int .i64 r.idx,.int .i64 r.bt,.int .i64 r.com,.int .i64 r.mem,.int .i64 r.off,.int .i64 r.size,.bool r.yes,.string r.data,.slice r.ents.ao r.ents.n r.ents.cap] 24)
def C (u : World) (b : Nat) (r : T) : Prop :=
 u.cell? ⟨b,0,none⟩ = some (.int .i64 r.kind) ∧ u.cell? ⟨b,1,none⟩ = some (.int .i64 r.frm) ∧ u.cell? ⟨b,2,none⟩ = some (.int .i64 r.to) ∧ u.cell? ⟨b,3,none⟩ = some (.int .i64 r.term) ∧ u.cell? ⟨b,4,none⟩ = some (.int .i64 r.idx) ∧ u.cell? ⟨b,5,none⟩ = some (.int .i64 r.bt) ∧ u.cell? ⟨b,6,none⟩ = some (.int .i64 r.com) ∧ u.cell? ⟨b,7,none⟩ = some (.int .i64 r.mem) ∧ u.cell? ⟨b,8,none⟩ = some (.int .i64 r.off) ∧ u.cell? ⟨b,9,none⟩ = some (.int .i64 r.size) ∧ u.cell? ⟨b,10,none⟩ = some (.bool r.yes) ∧ u.cell? ⟨b,11,none⟩ = some (.string r.data) ∧ u.cell? ⟨b,12,none⟩ = some (.slice r.ents.ao r.ents.n r.ents.cap)
theorem C.below {u v : World} {b : Nat} {r : T} (h : C u b r) (k : Below u.heap.size u v) : C v b r := by
 obtain ⟨h0,h1,h2,h3,h4,h5,h6,h7,h8,h9,h10,h11,h12⟩ := h
 have hl := cell_lt h0
 unfold C
 rw [(bcell k).1 _ _ hl,(bcell k).1 _ _ hl,(bcell k).1 _ _ hl,(bcell k).1 _ _ hl,(bcell k).1 _ _ hl,(bcell k).1 _ _ hl,(bcell k).1 _ _ hl,(bcell k).1 _ _ hl,(bcell k).1 _ _ hl,(bcell k).1 _ _ hl,(bcell k).1 _ _ hl,(bcell k).1 _ _ hl,(bcell k).1 _ _ hl]
 exact ⟨h0,h1,h2,h3,h4,h5,h6,h7,h8,h9,h10,h11,h12⟩
theorem c_box (w : World) (r : T) : C (box w r) w.heap.size r := by
 unfold box C
 simp [go_sem]
theorem box_size (w : World) (r : T) : (box w r).heap.size = w.heap.size + 1 := by
 unfold box
 simp
theorem below_own (w : World) (r : T) : Below w.heap.size w (box w r) := (Below.refl _ _).alloc (Nat.le_refl _) _
theorem boxed1 (w : World) (a : T) : ∃ W,w.alloc (.cells #[.int .i64 a.kind,.int .i64 a.frm,.int .i64 a.to,.int .i64 a.term,.int .i64 a.idx,.int .i64 a.bt,.int .i64 a.com,.int .i64 a.mem,.int .i64 a.off,.int .i64 a.size,.bool a.yes,.string a.data,.slice a.ents.ao a.ents.n a.ents.cap] 24) = W ∧ Below w.heap.size w W ∧ C W w.heap.size a :=
 ⟨_,rfl,below_own w a,c_box w a⟩
theorem boxed2 (w : World) (a b : T) : ∃ W,(w.alloc (.cells #[.int .i64 a.kind,.int .i64 a.frm,.int .i64 a.to,.int .i64 a.term,.int .i64 a.idx,.int .i64 a.bt,.int .i64 a.com,.int .i64 a.mem,.int .i64 a.off,.int .i64 a.size,.bool a.yes,.string a.data,.slice a.ents.ao a.ents.n a.ents.cap] 24)).alloc (.cells #[.int .i64 b.kind,.int .i64 b.frm,.int .i64 b.to,.int .i64 b.term,.int .i64 b.idx,.int .i64 b.bt,.int .i64 b.com,.int .i64 b.mem,.int .i64 b.off,.int .i64 b.size,.bool b.yes,.string b.data,.slice b.ents.ao b.ents.n b.ents.cap] 24) = W ∧
  Below w.heap.size w W ∧ C W w.heap.size a ∧ C W (w.heap.size + 1) b := by
 refine ⟨_,rfl,((below_own w a).trans ((below_own (box w a) b).mono (below_own w a).size)),(c_box w a).below (below_own _ b),?_⟩
 have h := c_box (box w a) b
 rw [box_size] at h
 exact h
end Go.Proofs.Ytagjbjppddbalaa.Lr
namespace Go.Proofs.Ytagjbjppddbalaa.Et
open Go.RowKit
open Mem
structure At (u : World) (b o : Nat) (r : T) : Prop where
 c0 : u.cell? ⟨b,o,none⟩ = some (.int .i64 r.term)
 c1 : u.cell? ⟨b,o + 1,none⟩ = some (.int .i64 r.mem)
 c2 : u.cell? ⟨b,o + 2,none⟩ = some (.string r.data)
theorem At.below {u v : World} {b o : Nat} {r : T} (h : At u b o r) (k : Below u.heap.size u v) : At v b o r := by
 have hl := cell_lt h.c0
 exact ⟨by rw [(bcell k).1 _ _ hl]; exact h.c0,by rw [(bcell k).1 _ _ hl]; exact h.c1,by rw [(bcell k).1 _ _ hl]; exact h.c2⟩
def Seg (w : World) (ao : Option Addr) (rs : List T) : Prop := rs = [] ∨ ∃ b off,ao = some ⟨b,off,none⟩ ∧ ∀ (k : Nat) (hk : k < rs.length),At w b (off + k * 3) rs[k]
theorem Seg.below {w v : World} {ao : Option Addr} {rs : List T} (h : Seg w ao rs) (k : Below w.heap.size w v) : Seg v ao rs := by
 rcases h with h | ⟨b,off,e,h⟩
 · exact .inl h
 · exact .inr ⟨b,off,e,fun i hi => (h i hi).below k⟩
structure Ls (w : World) (ao : Option Addr) (n cap : Nat) (rs : List T) : Prop where
 len : n = rs.length
 fits : n ≤ cap
 reach : cap ≤ 9223372036854775807
 nil : ao = none → cap = 0
 seg : Seg w ao rs
 short : ∀ r ∈ rs,Short r
theorem Ls.below {w v : World} {ao : Option Addr} {n cap : Nat} {rs : List T} (h : Ls w ao n cap rs) (k : Below w.heap.size w v) : Ls v ao n cap rs :=
 ⟨h.len,h.fits,h.reach,h.nil,h.seg.below k,h.short⟩
theorem Ls.at {w : World} {ao : Option Addr} {n cap : Nat} {rs : List T} (h : Ls w ao n cap rs) (hn : 0 < n) : ∃ b off,ao = some ⟨b,off,none⟩ := by
 rcases h.seg with e | ⟨b,off,e,_⟩
 ·
  have := h.len
  rw [e] at this
  simp at this
  omega
 · exact ⟨b,off,e⟩
theorem Ls.row {w : World} {b off n cap : Nat} {rs : List T} (h : Ls w (some ⟨b,off,none⟩) n cap rs) (k : Nat) (hk : k < rs.length) : At w b (off + k * 3) rs[k] := by
 rcases h.seg with e | ⟨b',off',e,hs⟩
 ·
  subst e
  simp at hk
 ·
  cases e
  exact hs k hk
theorem ls_nil (w : World) : Ls w none 0 0 [] := ⟨rfl,Nat.le_refl _,by omega,fun _ => rfl,.inl rfl,by simp⟩
theorem und : Try.prog.underlying 22 = some (.slice (Try.prog.elem 22)) := by kernel_rfl
theorem size (u : World) : (sizeOf (Try.prog.elem 22)).run Try.prog u = .ok 3 u := by
 have h : (Try.prog.info? (Try.prog.elem 22)).map (·.size) = some 3 := by kernel_rfl
 obtain ⟨i,hi,hs⟩ := Option.map_eq_some_iff.1 h
 simp [sizeOf,typeInfo,hi,hs]
theorem Ls.to {w : World} {ao : Option Addr} {n cap : Nat} {rs : List T} (h : Ls w ao n cap rs) (k : Nat) (hk : k ≤ n) :
  (∀ u,(Instr.slice 22 (.slice ao n cap) none (some (.int .i64 (k : Int))) none).run Try.prog u = .ok (.slice ao k cap) u) ∧ Ls w ao k cap (rs.take k) := by
 have hl := h.len
 have hf := h.fits
 refine ⟨fun u => ?_,⟨by rw [List.length_take]; omega,by omega,h.reach,h.nil,?_,fun r hr => h.short r (List.mem_of_mem_take hr)⟩⟩
 ·
  rw [run_slice_h u 22 ao n cap und .i64 k (by omega) (by omega),size]
  have e : Option.map (fun x : Addr => x.add 0) ao = ao := by cases ao <;> simp [Addr.add]
  simp [Result.andThen,sliced,e]
 ·
  rcases h.seg with e | ⟨b,off,e,hc⟩
  · exact .inl (by rw [e]; simp)
  ·
   refine .inr ⟨b,off,e,fun j hj => ?_⟩
   rw [List.length_take] at hj
   rw [List.getElem_take]
   exact hc j (by omega)
theorem Ls.from {w : World} {ao : Option Addr} {n cap : Nat} {rs : List T} (h : Ls w ao n cap rs) (k : Nat) (hk : k ≤ n) :
  ∃ ao2 cap2,(∀ u,(Instr.slice 22 (.slice ao n cap) (some (.int .i64 (k : Int))) none none).run Try.prog u = .ok (.slice ao2 (n - k) cap2) u) ∧ Ls w ao2 (n - k) cap2 (rs.drop k) := by
 have hl := h.len
 have hf := h.fits
 refine ⟨if cap = k then ao else ao.map (·.add (k * 3)),cap - k,fun u => ?_,⟨by rw [List.length_drop]; omega,by omega,by have := h.reach; omega,?_,?_,fun r hr => h.short r (List.mem_of_mem_drop hr)⟩⟩
 ·
  rw [run_slice_l u 22 ao n cap und .i64 k (by omega) (by omega),size]
  simp [Result.andThen,sliced]
 ·
  by_cases e : cap = k
  · omega
  ·
   rw [if_neg e]
   cases ao with
   | none => have := h.nil rfl; omega
   | some a => exact fun k => by cases k
 ·
  by_cases hkn : k = n
  · exact .inl (List.drop_eq_nil_of_le (by omega))
  ·
   rcases h.seg with e | ⟨b,off,rfl,hc⟩
   · exact .inl (by rw [e]; simp)
   ·
    refine .inr ⟨b,off + k * 3,?_,fun j hj => ?_⟩
    ·
     rw [if_neg (by omega)]
     unfold Addr.add
     simp only [Option.map_some,Option.some.injEq]
     split
     ·
      rename_i e
      rw [e]
      rfl
     · rfl
    ·
     rw [List.length_drop] at hj
     rw [List.getElem_drop,show off + k * 3 + j * 3 = off + (k + j) * 3 by omega]
     exact hc (k + j) (by omega)
end Go.Proofs.Ytagjbjppddbalaa.Et
namespace Go.Proofs.Ytagjbjppddbalaa.Hd
open Go.RowKit
open Mem
structure T where
 term : Int
 vote : Int
 base : Int
 bt : Int
 mem : Int
 snap : ByteArray
 log : Sl
def val (r : T) : Value := .agg #[.int .i64 r.term,.int .i64 r.vote,.int .i64 r.base,.int .i64 r.bt,.int .i64 r.mem,.string r.snap,.slice r.log.ao r.log.n r.log.cap]
def Short (r : T) : Prop := Fit r.term ∧ Fit r.vote ∧ Fit r.base ∧ Fit r.bt ∧ Fit r.mem ∧ r.snap.size ≤ 140737488355328
def box (w : World) (r : T) : World := w.alloc (.cells #[.int .i64 r.term,.int .i64 r.vote,.int .i64 r.base,.int .i64 r.bt,.int .i64 r.mem,.string r.snap,.slice r.log.ao r.log.n r.log.cap] 78)
def C (u : World) (b : Nat) (r : T) : Prop :=
 u.cell? ⟨b,0,none⟩ = some (.int .i64 r.term) ∧ u.cell? ⟨b,1,none⟩ = some (.int .i64 r.vote) ∧ u.cell? ⟨b,2,none⟩ = some (.int .i64 r.base) ∧ u.cell? ⟨b,3,none⟩ = some (.int .i64 r.bt) ∧ u.cell? ⟨b,4,none⟩ = some (.int .i64 r.mem) ∧ u.cell? ⟨b,5,none⟩ = some (.string r.snap) ∧ u.cell? ⟨b,6,none⟩ = some (.slice r.log.ao r.log.n r.log.cap)
theorem C.below {u v : World} {b : Nat} {r : T} (h : C u b r) (k : Below u.heap.size u v) : C v b r := by
 obtain ⟨h0,h1,h2,h3,h4,h5,h6⟩ := h
 have hl := cell_lt h0
 unfold C
 rw [(bcell k).1 _ _ hl,(bcell k).1 _ _ hl,(bcell k).1 _ _ hl,(bcell k).1 _ _ hl,(bcell k).1 _ _ hl,(bcell k).1 _ _ hl,(bcell k).1 _ _ hl]
 exact ⟨h0,h1,h2,h3,h4,h5,h6⟩
theorem c_box (w : World) (r : T) : C (box w r) w.heap.size r := by
 unfold box C
 simp [go_sem]
theorem box_size (w : World) (r : T) : (box w r).heap.size = w.heap.size + 1 := by
 unfold box
 simp
theorem below_own (w : World) (r : T) : Below w.heap.size w (box w r) := (Below.refl _ _).alloc (Nat.le_refl _) _
theorem boxed1 (w : World) (a : T) : ∃ W,w.alloc (.cells #[.int .i64 a.term,.int .i64 a.vote,.int .i64 a.base,.int .i64 a.bt,.int .i64 a.mem,.string a.snap,.slice a.log.ao a.log.n a.log.cap] 78) = W ∧ Below w.heap.size w W ∧ C W w.heap.size a :=
 ⟨_,rfl,below_own w a,c_box w a⟩
theorem boxed2 (w : World) (a b : T) : ∃ W,(w.alloc (.cells #[.int .i64 a.term,.int .i64 a.vote,.int .i64 a.base,.int .i64 a.bt,.int .i64 a.mem,.string a.snap,.slice a.log.ao a.log.n a.log.cap] 78)).alloc (.cells #[.int .i64 b.term,.int .i64 b.vote,.int .i64 b.base,.int .i64 b.bt,.int .i64 b.mem,.string b.snap,.slice b.log.ao b.log.n b.log.cap] 78) = W ∧
  Below w.heap.size w W ∧ C W w.heap.size a ∧ C W (w.heap.size + 1) b := by
 refine ⟨_,rfl,((below_own w a).trans ((below_own (box w a) b).mono (below_own w a).size)),(c_box w a).below (below_own _ b),?_⟩
 have h := c_box (box w a) b
 rw [box_size] at h
 exact h
end Go.Proofs.Ytagjbjppddbalaa.Hd
namespace Go.Proofs.Ytagjbjppddbalaa
open Go.RowKit
open Mem
open Go.Sort (grow)
theorem wl_within (n lo hi : Int) (w : World) : Calls Try.prog 63 #[.int .i64 n,.int .i64 lo,.int .i64 hi] w fun e w' => e = .returned (.bool (Wl.within n lo hi)) ∧ w' = w := by
 by_cases h1 : lo ≤ n
 ·
  by_cases h2 : n ≤ hi
  ·
   have HE : Hid (Wl.within n lo hi = true) := Lib.hid (by unfold Wl.within; rw [decide_eq_true h1,decide_eq_true h2]; rfl)
   go_enter Try.func63,Try.ntmps63
   go_wp2
   go_ret
   exact ⟨ret_bool HE.out.symm,rfl⟩
  ·
   have HE : Hid (Wl.within n lo hi = false) := Lib.hid (by unfold Wl.within; rw [decide_eq_false h2,Bool.and_false])
   go_enter Try.func63,Try.ntmps63
   go_wp2
   go_ret
   exact ⟨ret_bool HE.out.symm,rfl⟩
 ·
  have HE : Hid (Wl.within n lo hi = false) := Lib.hid (by unfold Wl.within; rw [decide_eq_false h1,Bool.false_and])
  go_enter Try.func63,Try.ntmps63
  go_wp2
  go_ret
  exact ⟨ret_bool HE.out.symm,rfl⟩
def Hd.h (r : Hd.T) (l : List Et.T) : Wl.H := ⟨r.term,r.vote,r.base,r.bt,r.mem,r.snap,l⟩
theorem wl_last (r : Hd.T) (l : List Et.T) (w : World) (hl : Et.Ls w r.log.ao r.log.n r.log.cap l) (hb : -1000000000000000000 ≤ r.base ∧ r.base ≤ 1000000000000000000) (hn : l.length ≤ 100000) :
  Calls Try.prog 64 #[Hd.val r] w fun e w' => e = .returned (.int .i64 (Wl.last (Hd.h r l))) ∧ Below w.heap.size w w' := by
 have hlen := hl.len
 have HE : Hid (Wl.last (Hd.h r l) = r.base + (r.log.n : Int)) := Lib.hid (by unfold Wl.last Hd.h; rw [hlen])
 have hn' : r.log.n ≤ 100000 := by omega
 obtain ⟨hb1,hb2⟩ := hb
 clear hl hlen hn
 obtain ⟨W,hW,hbW,hC⟩ := Hd.boxed1 w r
 have HBW := Lib.hid hbW
 unfold Hd.C at hC
 obtain ⟨a0,a1,a2,a3,a4,a5,a6⟩ := hC
 clear hbW
 unfold Hd.val
 go_enter Try.func64,Try.ntmps64
 go_wp2
 go_ret
 exact ⟨by rw [HE.out]; rfl,HBW.out⟩
theorem wl_lastTerm (r : Hd.T) (l : List Et.T) (w : World) (hl : Et.Ls w r.log.ao r.log.n r.log.cap l) :
  Calls Try.prog 65 #[Hd.val r] w fun e w' => e = .returned (.int .i64 (Wl.lastTerm (Hd.h r l))) ∧ Below w.heap.size w w' := by
 have hlen := hl.len
 have hf := hl.fits
 have hr := hl.reach
 obtain ⟨W,hW,hbW,hC⟩ := Hd.boxed1 w r
 have HBW := Lib.hid hbW
 by_cases h0 : r.log.n = 0
 ·
  have HE : Hid (Wl.lastTerm (Hd.h r l) = r.bt) := Lib.hid (by
   have : l = [] := List.length_eq_zero_iff.1 (by omega)
   subst this
   rfl)
  have q : ((r.log.n : Int) == 0) = true := by rw [h0]; rfl
  unfold Hd.C at hC
  obtain ⟨a0,a1,a2,a3,a4,a5,a6⟩ := hC
  clear hbW hl hlen h0
  unfold Hd.val
  go_enter Try.func65,Try.ntmps65
  go_wp2
  go_ret
  exact ⟨by rw [HE.out]; rfl,HBW.out⟩
 ·
  obtain ⟨b,off,hao⟩ := hl.at (by omega)
  have hk : r.log.n - 1 < l.length := by omega
  have hl' := hl.below hbW
  rw [hao] at hl'
  have hrow := hl'.row (r.log.n - 1) hk
  have HE : Hid (Wl.lastTerm (Hd.h r l) = l[r.log.n - 1].term) := Lib.hid (by
   show (l.getLast?.map Et.T.term).getD r.bt = _
   have e : l.getLast? = some l[r.log.n - 1] := by
    rw [List.getLast?_eq_getElem?,← hlen,List.getElem?_eq_getElem hk]
   rw [e]
   rfl)
  obtain ⟨x,hx⟩ : ∃ x,l[r.log.n - 1] = x := ⟨_,rfl⟩
  rw [hx] at hrow HE
  have q : ((r.log.n : Int) == 0) = false := beq_eq_false_iff_ne.2 (by omega)
  obtain ⟨k,hkn⟩ : ∃ k,r.log.n - 1 = k := ⟨_,rfl⟩
  have e1 : (r.log.n : Int) - 1 = (k : Int) := by omega
  have hkl : k < r.log.n := by omega
  rw [hkn] at hrow
  obtain ⟨c0,c1,c2⟩ := hrow
  unfold Hd.C at hC
  rw [hao] at hC
  obtain ⟨a0,a1,a2,a3,a4,a5,a6⟩ := hC
  unfold Hd.val
  rw [hao] at hW ⊢
  clear hbW hl hl' hlen hx h0 hk hao hkn
  go_enter Try.func65,Try.ntmps65
  go_wp2
  go_ret
  exact ⟨by rw [HE.out]; rfl,HBW.out⟩
set_option maxHeartbeats 2000000 in
theorem wl_headed (r : Hd.T) (l : List Et.T) (w : World) :
  Calls Try.prog 59 #[Hd.val r] w fun e w' => e = .returned (.bool (Wl.headed (Hd.h r l))) ∧ Below w.heap.size w w' := by
 obtain ⟨W,hW,hbW,hC⟩ := Hd.boxed1 w r
 have HBW := Lib.hid hbW
 unfold Hd.C at hC
 obtain ⟨a0,a1,a2,a3,a4,a5,a6⟩ := hC
 clear hbW
 have HE : Hid (Wl.headed (Hd.h r l) = (Wl.within r.term 0 1099511627776 && (Wl.within r.vote (-1) 6 && (Wl.within r.base 0 1099511627776 && (Wl.within r.bt 0 r.term && (((r.bt == 0) == (r.base == 0)) && Wl.within r.mem 1 127)))))) := Lib.hid rfl
 cases q1 : Wl.within r.term 0 1099511627776
 ·
  rw [q1,Bool.false_and] at HE
  unfold Hd.val
  go_enter Try.func59,Try.ntmps59
  go_wp2_with (go_at_call 63; refine (wl_within _ _ _ _).mono ?_; rintro e u ⟨rfl,rfl⟩; first | rw [q1])
  go_ret
  exact ⟨ret_bool HE.out.symm,HBW.out⟩
 rw [q1,Bool.true_and] at HE
 cases q2 : Wl.within r.vote (-1) 6
 ·
  rw [q2,Bool.false_and] at HE
  unfold Hd.val
  go_enter Try.func59,Try.ntmps59
  go_wp2_with (go_at_call 63; refine (wl_within _ _ _ _).mono ?_; rintro e u ⟨rfl,rfl⟩; first | rw [q1] | rw [q2])
  go_ret
  exact ⟨ret_bool HE.out.symm,HBW.out⟩
 rw [q2,Bool.true_and] at HE
 cases q3 : Wl.within r.base 0 1099511627776
 ·
  rw [q3,Bool.false_and] at HE
  unfold Hd.val
  go_enter Try.func59,Try.ntmps59
  go_wp2_with (go_at_call 63; refine (wl_within _ _ _ _).mono ?_; rintro e u ⟨rfl,rfl⟩; first | rw [q1] | rw [q2] | rw [q3])
  go_ret
  exact ⟨ret_bool HE.out.symm,HBW.out⟩
 rw [q3,Bool.true_and] at HE
 cases q4 : Wl.within r.bt 0 r.term
 ·
  rw [q4,Bool.false_and] at HE
  unfold Hd.val
  go_enter Try.func59,Try.ntmps59
  go_wp2_with (go_at_call 63; refine (wl_within _ _ _ _).mono ?_; rintro e u ⟨rfl,rfl⟩; first | rw [q1] | rw [q2] | rw [q3] | rw [q4])
  go_ret
  exact ⟨ret_bool HE.out.symm,HBW.out⟩
 rw [q4,Bool.true_and] at HE
 cases q5 : ((r.bt == 0) == (r.base == 0))
 ·
  rw [q5,Bool.false_and] at HE
  unfold Hd.val
  go_enter Try.func59,Try.ntmps59
  go_wp2_with (go_at_call 63; refine (wl_within _ _ _ _).mono ?_; rintro e u ⟨rfl,rfl⟩; first | rw [q1] | rw [q2] | rw [q3] | rw [q4])
  go_ret
  exact ⟨ret_bool HE.out.symm,HBW.out⟩
 ·
  rw [q5,Bool.true_and] at HE
  unfold Hd.val
  go_enter Try.func59,Try.ntmps59
  go_wp2_with (go_at_call 63; refine (wl_within _ _ _ _).mono ?_; rintro e u ⟨rfl,rfl⟩; try (first | rw [q1] | rw [q2] | rw [q3] | rw [q4]))
  go_ret
  exact ⟨ret_bool HE.out.symm,HBW.out⟩
end Go.Proofs.Ytagjbjppddbalaa
namespace Go.Proofs.Ytagjbjppddbalaa
open Go.RowKit
open Mem
open Go.Sort (grow)
theorem lt_within (n lo hi : Int) (w : World) : Calls Try.prog 51 #[.int .i64 n,.int .i64 lo,.int .i64 hi] w fun e w' => e = .returned (.bool (Wl.within n lo hi)) ∧ w' = w := by
 by_cases h1 : lo ≤ n
 ·
  by_cases h2 : n ≤ hi
  ·
   have HE : Hid (Wl.within n lo hi = true) := Lib.hid (by unfold Wl.within; rw [decide_eq_true h1,decide_eq_true h2]; rfl)
   go_enter Try.func51,Try.ntmps51
   go_wp2
   go_ret
   exact ⟨ret_bool HE.out.symm,rfl⟩
  ·
   have HE : Hid (Wl.within n lo hi = false) := Lib.hid (by unfold Wl.within; rw [decide_eq_false h2,Bool.and_false])
   go_enter Try.func51,Try.ntmps51
   go_wp2
   go_ret
   exact ⟨ret_bool HE.out.symm,rfl⟩
 ·
  have HE : Hid (Wl.within n lo hi = false) := Lib.hid (by unfold Wl.within; rw [decide_eq_false h1,Bool.false_and])
  go_enter Try.func51,Try.ntmps51
  go_wp2
  go_ret
  exact ⟨ret_bool HE.out.symm,rfl⟩
def Lr.m (r : Lr.T) (l : List Et.T) : Lr.M := ⟨r.kind,r.frm,r.to,r.term,r.idx,r.bt,r.com,r.mem,r.off,r.size,r.yes,r.data,l⟩
def Lr.coV (c : Lr.Co) : Value := .agg #[.int .i64 c.idx,.int .i64 c.bt,.int .i64 c.com,.int .i64 c.mem,.int .i64 c.off,.int .i64 c.size,.bool c.yes,.string c.data,.int .i64 c.n]
set_option maxHeartbeats 4000000 in
theorem lt_headed (r : Lr.T) (l : List Et.T) (w : World) :
  Calls Try.prog 35 #[Lr.val r] w fun e w' => e = .returned (.bool (Lr.headB (Lr.m r l))) ∧ Below w.heap.size w w' := by
 obtain ⟨W,hW,hbW,hC⟩ := Lr.boxed1 w r
 have HBW := Lib.hid hbW
 unfold Lr.C at hC
 obtain ⟨a0,a1,a2,a3,a4,a5,a6,a7,a8,a9,a10,a11,a12⟩ := hC
 clear hbW
 have HE : Hid (Lr.headB (Lr.m r l) = (Wl.within r.frm 0 6 && (Wl.within r.to 0 6 && (decide (r.frm ≠ r.to) && (Wl.within r.term 1 1099511627776 && (Wl.within r.idx 0 1099511627776 && (Wl.within r.bt 0 r.term && (Wl.within r.com 0 1099511627776)))))))) := Lib.hid rfl
 cases q0 : Wl.within r.frm 0 6
 ·
  rw [q0,Bool.false_and] at HE
  unfold Lr.val
  go_enter Try.func35,Try.ntmps35
  go_wp2_with (go_at_call 51; refine (lt_within _ _ _ _).mono ?_; rintro e u ⟨rfl,rfl⟩; try (first | rw [q0]))
  go_ret
  exact ⟨ret_bool HE.out.symm,HBW.out⟩
 rw [q0,Bool.true_and] at HE
 cases q1 : Wl.within r.to 0 6
 ·
  rw [q1,Bool.false_and] at HE
  unfold Lr.val
  go_enter Try.func35,Try.ntmps35
  go_wp2_with (go_at_call 51; refine (lt_within _ _ _ _).mono ?_; rintro e u ⟨rfl,rfl⟩; try (first | rw [q0] | rw [q1]))
  go_ret
  exact ⟨ret_bool HE.out.symm,HBW.out⟩
 rw [q1,Bool.true_and] at HE
 by_cases q2 : r.frm = r.to
 ·
  rw [decide_eq_false (by simp [q2]),Bool.false_and] at HE
  have p2 : (r.frm != r.to) = false := by rw [bne,beq_iff_eq.2 q2]; rfl
  clear q2
  unfold Lr.val
  go_enter Try.func35,Try.ntmps35
  go_wp2_with (go_at_call 51; refine (lt_within _ _ _ _).mono ?_; rintro e u ⟨rfl,rfl⟩; try (first | rw [q0] | rw [q1]))
  go_ret
  exact ⟨ret_bool HE.out.symm,HBW.out⟩
 have p2 : (r.frm != r.to) = true := by rw [bne,beq_eq_false_iff_ne.2 q2]; rfl
 rw [decide_eq_true q2,Bool.true_and] at HE
 cases q3 : Wl.within r.term 1 1099511627776
 ·
  rw [q3,Bool.false_and] at HE
  unfold Lr.val
  go_enter Try.func35,Try.ntmps35
  go_wp2_with (go_at_call 51; refine (lt_within _ _ _ _).mono ?_; rintro e u ⟨rfl,rfl⟩; try (first | rw [q0] | rw [q1] | rw [q3]))
  go_ret
  exact ⟨ret_bool HE.out.symm,HBW.out⟩
 rw [q3,Bool.true_and] at HE
 cases q4 : Wl.within r.idx 0 1099511627776
 ·
  rw [q4,Bool.false_and] at HE
  unfold Lr.val
  go_enter Try.func35,Try.ntmps35
  go_wp2_with (go_at_call 51; refine (lt_within _ _ _ _).mono ?_; rintro e u ⟨rfl,rfl⟩; try (first | rw [q0] | rw [q1] | rw [q3] | rw [q4]))
  go_ret
  exact ⟨ret_bool HE.out.symm,HBW.out⟩
 rw [q4,Bool.true_and] at HE
 cases q5 : Wl.within r.bt 0 r.term
 ·
  rw [q5,Bool.false_and] at HE
  unfold Lr.val
  go_enter Try.func35,Try.ntmps35
  go_wp2_with (go_at_call 51; refine (lt_within _ _ _ _).mono ?_; rintro e u ⟨rfl,rfl⟩; try (first | rw [q0] | rw [q1] | rw [q3] | rw [q4] | rw [q5]))
  go_ret
  exact ⟨ret_bool HE.out.symm,HBW.out⟩
 rw [q5,Bool.true_and] at HE
 cases q6 : Wl.within r.com 0 1099511627776
 ·
  rw [q6] at HE
  unfold Lr.val
  go_enter Try.func35,Try.ntmps35
  go_wp2_with (go_at_call 51; refine (lt_within _ _ _ _).mono ?_; rintro e u ⟨rfl,rfl⟩; try (first | rw [q0] | rw [q1] | rw [q3] | rw [q4] | rw [q5] | rw [q6]))
  go_ret
  exact ⟨ret_bool HE.out.symm,HBW.out⟩
 ·
  rw [q6] at HE
  unfold Lr.val
  go_enter Try.func35,Try.ntmps35
  go_wp2_with (go_at_call 51; refine (lt_within _ _ _ _).mono ?_; rintro e u ⟨rfl,rfl⟩; try (first | rw [q0] | rw [q1] | rw [q3] | rw [q4] | rw [q5] | rw [q6]))
  go_ret
  exact ⟨ret_bool HE.out.symm,HBW.out⟩
set_option maxHeartbeats 1000000 in
theorem lt_all (r : Lr.T) (l : List Et.T) (w : World) (hl : r.ents.n = l.length) :
  Calls Try.prog 36 #[Lr.val r] w fun e w' => e = .returned (Lr.coV (Lr.allM (Lr.m r l))) ∧ Below w.heap.size w w' := by
 have HA : Hid (Lr.allM (Lr.m r l) = ⟨r.idx,r.bt,r.com,r.mem,r.off,r.size,r.yes,r.data,(r.ents.n : Int)⟩) := Lib.hid (by rw [hl]; rfl)
 clear hl
 rw [HA.out]
 ·
  unfold Lr.val
  go_enter Try.func36,Try.ntmps36
  go_wp2
  exact bodyPost_ret (v := Lr.coV ⟨r.idx,r.bt,r.com,r.mem,r.off,r.size,r.yes,r.data,(r.ents.n : Int)⟩) (by simp [results,Lr.coV,Try.results36,go_sem] <;> rfl) rfl ⟨rfl,below_box (below_box (Below.refl _ _) _) _⟩
set_option maxHeartbeats 2000000 in
theorem lt_named (r : Lr.T) (l : List Et.T) (w : World) (hl : r.ents.n = l.length) :
  Calls Try.prog 37 #[Lr.val r] w fun e w' => e = .returned (Lr.coV (Lr.namedM (Lr.m r l))) ∧ Below w.heap.size w w' := by
 have HA : Hid (Lr.namedM (Lr.m r l) = if r.kind = 1 then ⟨r.idx,r.bt,0,0,0,0,false,.empty,0⟩ else if r.kind = 2 then ⟨0,0,0,0,0,0,r.yes,.empty,0⟩ else if r.kind = 3 then ⟨r.idx,r.bt,r.com,0,0,0,false,.empty,(r.ents.n : Int)⟩ else if r.kind = 4 then ⟨r.idx,0,0,0,0,0,r.yes,.empty,0⟩ else if r.kind = 5 then ⟨r.idx,r.bt,0,r.mem,r.off,r.size,false,r.data,0⟩ else if r.kind = 6 then ⟨r.idx,0,0,0,r.off,0,false,.empty,0⟩ else ⟨0,0,0,0,0,0,false,.empty,0⟩) := Lib.hid (by rw [hl]; rfl)
 clear hl
 by_cases h1 : r.kind = 1
 ·
  rw [HA.out,if_pos h1]
  unfold Lr.val
  rw [h1]
  go_enter Try.func37,Try.ntmps37
  go_wp2
  exact bodyPost_ret (v := Lr.coV ⟨r.idx,r.bt,0,0,0,0,false,.empty,0⟩) (by simp [results,Lr.coV,Try.results37,go_sem] <;> rfl) rfl ⟨rfl,below_box (below_box (Below.refl _ _) _) _⟩
 by_cases h2 : r.kind = 2
 ·
  rw [HA.out,if_neg h1,if_pos h2]
  unfold Lr.val
  rw [h2]
  go_enter Try.func37,Try.ntmps37
  go_wp2
  exact bodyPost_ret (v := Lr.coV ⟨0,0,0,0,0,0,r.yes,.empty,0⟩) (by simp [results,Lr.coV,Try.results37,go_sem] <;> rfl) rfl ⟨rfl,below_box (below_box (Below.refl _ _) _) _⟩
 by_cases h3 : r.kind = 3
 ·
  rw [HA.out,if_neg h1,if_neg h2,if_pos h3]
  unfold Lr.val
  rw [h3]
  go_enter Try.func37,Try.ntmps37
  go_wp2
  exact bodyPost_ret (v := Lr.coV ⟨r.idx,r.bt,r.com,0,0,0,false,.empty,(r.ents.n : Int)⟩) (by simp [results,Lr.coV,Try.results37,go_sem] <;> rfl) rfl ⟨rfl,below_box (below_box (Below.refl _ _) _) _⟩
 by_cases h4 : r.kind = 4
 ·
  rw [HA.out,if_neg h1,if_neg h2,if_neg h3,if_pos h4]
  unfold Lr.val
  rw [h4]
  go_enter Try.func37,Try.ntmps37
  go_wp2
  exact bodyPost_ret (v := Lr.coV ⟨r.idx,0,0,0,0,0,r.yes,.empty,0⟩) (by simp [results,Lr.coV,Try.results37,go_sem] <;> rfl) rfl ⟨rfl,below_box (below_box (Below.refl _ _) _) _⟩
 by_cases h5 : r.kind = 5
 ·
  rw [HA.out,if_neg h1,if_neg h2,if_neg h3,if_neg h4,if_pos h5]
  unfold Lr.val
  rw [h5]
  go_enter Try.func37,Try.ntmps37
  go_wp2
  exact bodyPost_ret (v := Lr.coV ⟨r.idx,r.bt,0,r.mem,r.off,r.size,false,r.data,0⟩) (by simp [results,Lr.coV,Try.results37,go_sem] <;> rfl) rfl ⟨rfl,below_box (below_box (Below.refl _ _) _) _⟩
 by_cases h6 : r.kind = 6
 ·
  rw [HA.out,if_neg h1,if_neg h2,if_neg h3,if_neg h4,if_neg h5,if_pos h6]
  unfold Lr.val
  rw [h6]
  go_enter Try.func37,Try.ntmps37
  go_wp2
  exact bodyPost_ret (v := Lr.coV ⟨r.idx,0,0,0,r.off,0,false,.empty,0⟩) (by simp [results,Lr.coV,Try.results37,go_sem] <;> rfl) rfl ⟨rfl,below_box (below_box (Below.refl _ _) _) _⟩
 ·
  rw [HA.out,if_neg h1,if_neg h2,if_neg h3,if_neg h4,if_neg h5,if_neg h6]
  unfold Lr.val
  clear HA
  go_enter Try.func37,Try.ntmps37
  go_wp2
  exact bodyPost_ret (v := Lr.coV ⟨0,0,0,0,0,0,false,.empty,0⟩) (by simp [results,Lr.coV,Try.results37,go_sem] <;> rfl) rfl ⟨rfl,below_box (below_box (Below.refl _ _) _) _⟩
theorem Lr.any_txt : "any".toByteArray = (⟨#[97, 110, 121]⟩ : ByteArray) := by decide
def Lr.hd (r : Lr.T) : Hd.T := ⟨r.term,0,r.idx,r.bt,127,if r.idx = 0 then .empty else ⟨#[97,110,121]⟩,r.ents⟩
theorem Lr.hd_h (r : Lr.T) (l : List Et.T) : Hd.h (Lr.hd r) l = Lr.toldH (Lr.m r l) := by
 unfold Hd.h Lr.hd Lr.toldH Lr.m
 rw [Lr.any_txt]
set_option maxHeartbeats 2000000 in
theorem lt_told (r : Lr.T) (w : World) : Calls Try.prog 53 #[Lr.val r] w fun e w' => e = .returned (Hd.val (Lr.hd r)) ∧ Below w.heap.size w w' := by
 unfold Lr.hd
 by_cases h : r.idx = 0
 ·
  rw [h,if_pos rfl]
  have q : (r.idx != 0) = false := by rw [h]; rfl
  unfold Lr.val
  rw [h]
  go_enter Try.func53,Try.ntmps53
  go_wp2
  exact bodyPost_ret (v := Hd.val ⟨r.term,0,0,r.bt,127,.empty,r.ents⟩) (by simp [results,Hd.val,Try.results53,go_sem] <;> rfl) rfl ⟨rfl,below_box (below_box (below_box (Below.refl _ _) _) _) _⟩
 ·
  rw [if_neg h]
  have q : (r.idx != 0) = true := by rw [bne,beq_eq_false_iff_ne.2 h]; rfl
  unfold Lr.val
  go_enter Try.func53,Try.ntmps53
  go_wp2
  exact bodyPost_ret (v := Hd.val ⟨r.term,0,r.idx,r.bt,127,⟨#[97,110,121]⟩,r.ents⟩) (by simp [results,Hd.val,Try.results53,go_sem] <;> rfl) rfl ⟨rfl,below_box (below_box (below_box (Below.refl _ _) _) _) _⟩
end Go.Proofs.Ytagjbjppddbalaa
namespace Go.Proofs.Ytagjbjppddbalaa
open Go.RowKit
open Mem
open Go.Sort (grow)
def AnsW (f : FuncId) (args : Array Value) (u : World) (i : Nat) (os : Array Obj) (v : Value) : Prop :=
 Calls Try.prog f args (grow (redrawn u i) os) fun e w'' => e = .returned v ∧ ∃ p : Regrown,w'' = grow (redrawn u p.d) p.os
theorem within_ag (n lo hi : Int) (u : World) (i : Nat) (os : Array Obj) : AnsW 63 #[.int .i64 n,.int .i64 lo,.int .i64 hi] u i os (.bool (Wl.within n lo hi)) :=
 Calls.regrown_of ((wl_within n lo hi _).mono fun e w' h => ⟨h.1,by rw [h.2]; exact Below.refl _ _⟩)
theorem last_ag (r : Hd.T) (l : List Et.T) (u : World) (hl : Et.Ls u r.log.ao r.log.n r.log.cap l) (hb : -1000000000000000000 ≤ r.base ∧ r.base ≤ 1000000000000000000) (hn : l.length ≤ 100000) (i : Nat) (os : Array Obj) :
  AnsW 64 #[Hd.val r] u i os (.int .i64 (Wl.last (Hd.h r l))) := Calls.regrown_of (wl_last r l _ (hl.below (below_regrown u i os)) hb hn)
theorem lastTerm_ag (r : Hd.T) (l : List Et.T) (u : World) (hl : Et.Ls u r.log.ao r.log.n r.log.cap l) (i : Nat) (os : Array Obj) :
  AnsW 65 #[Hd.val r] u i os (.int .i64 (Wl.lastTerm (Hd.h r l))) := Calls.regrown_of (wl_lastTerm r l _ (hl.below (below_regrown u i os)))
set_option maxHeartbeats 4000000 in
theorem wl_fits (r : Hd.T) (l : List Et.T) (x : Et.T) (w : World) (hl : Et.Ls w r.log.ao r.log.n r.log.cap l) (hb : -1000000000000000000 ≤ r.base ∧ r.base ≤ 1000000000000000000) (hx : Et.Short x) :
  Calls Try.prog 60 #[Hd.val r,Et.val x] w fun e w' => e = .returned (.bool (Wl.fits (Hd.h r l) x)) ∧ Below w.heap.size w w' := by
 have HL := Lib.hid hl
 have HS := Lib.hid hx
 have hr1 := hl.fits
 have hr2 := hl.reach
 have hsz := hx.2.2
 obtain ⟨W,hW,hbW,hC⟩ := Hd.boxed1 w r
 obtain ⟨V,hV,hbV,hE⟩ := Et.boxed1 W x
 have HBW := Lib.hid (bchain hbW hbV)
 have hC2 := hC.below hbV
 have hV' := (hl.below hbW).below hbV
 have hen : Hid (Wl.fits (Hd.h r l) x = (decide ((r.log.n : Int) < 200) && (decide (Wl.last (Hd.h r l) < 1099511627776) && (Wl.within x.term (max 1 (Wl.lastTerm (Hd.h r l))) r.term && (Wl.within x.mem 0 127 && (decide ((x.data.size : Int) ≤ 1100) && ((x.mem == 0) || (x.data.toList == [])))))))) := Lib.hid (by
  unfold Wl.fits
  have e1 : decide ((Hd.h r l).log.length < 200) = decide ((r.log.n : Int) < 200) := by rw [hl.len]; show decide (l.length < 200) = _; rw [decide_eq_decide]; omega
  have e2 : decide (x.data.size ≤ 1100) = decide ((x.data.size : Int) ≤ 1100) := by rw [decide_eq_decide]; omega
  have e3 : decide (x.data.size = 0) = (x.data.toList == []) := by
   have := txt_len x.data
   rw [tl,Bool.eq_iff_iff,decide_eq_true_iff,beq_iff_eq,← List.length_eq_zero_iff,this]
  rw [e1,e2,e3]
  rfl)
 obtain ⟨f,hf⟩ : ∃ f,Wl.fits (Hd.h r l) x = f := ⟨_,rfl⟩
 have HE := hen
 unfold Hd.C at hC2
 obtain ⟨a0,a1,a2,a3,a4,a5,a6⟩ := hC2
 unfold Et.C at hE
 obtain ⟨k0,k1,k2⟩ := hE
 have a0' := cell_regrown a0
 have a1' := cell_regrown a1
 have a2' := cell_regrown a2
 have a3' := cell_regrown a3
 have a4' := cell_regrown a4
 have a5' := cell_regrown a5
 have a6' := cell_regrown a6
 have k0' := cell_regrown k0
 have k1' := cell_regrown k1
 have k2' := cell_regrown k2
 have hn0 : (r.log.n : Int) < 200 → l.length ≤ 100000 := fun z => by have := hl.len; omega
 have cL := fun (z : (r.log.n : Int) < 200) => last_ag r l V hV' hb (hn0 z)
 have cT := lastTerm_ag r l V hV'
 have c3 := fun m => within_ag x.term m r.term V
 have c4 := within_ag x.mem 0 127 V
 unfold Hd.val at cL cT
 unfold AnsW at cL cT c3 c4
 clear a0 a1 a2 a3 a4 a5 a6 k0 k1 k2 hl hC hbW hbV hV' hen hn0 hf hx
 unfold Hd.val Et.val
 obtain ⟨la,hla⟩ : ∃ la,Wl.last (Hd.h r l) = la := ⟨_,rfl⟩
 obtain ⟨lt,hlt⟩ : ∃ lt,Wl.lastTerm (Hd.h r l) = lt := ⟨_,rfl⟩
 rw [hla,hlt] at HE
 rw [hla] at cL
 rw [hlt] at cT
 obtain ⟨mx,hmx⟩ : ∃ mx,(if 1 < lt then lt else 1) = mx := ⟨_,rfl⟩
 have hm2 : max 1 lt = mx := by
  rw [← hmx]
  split <;> omega
 rw [hm2] at HE
 have c3 := c3 mx
 clear hm2
 clear hla hlt
 by_cases b1 : (r.log.n : Int) < 200
 ·
  have cL := cL b1
  have d1 := decide_eq_true b1
  rw [d1,Bool.true_and] at HE
  clear b1
  by_cases b2 : la < 1099511627776
  ·
   have d2 := decide_eq_true b2
   rw [d2,Bool.true_and] at HE
   clear b2
   cases b3 : Wl.within x.term mx r.term
   ·
    rw [b3] at c3
    rw [b3,Bool.false_and] at HE
    clear HL HS
    go_enter Try.func60,Try.ntmps60
    go_wp2_with fail
    clear hW hV
    refine wp_region_quiet_below (by kernel_rfl) (by kernel_rfl) ?_
    repeat (first | go_big_quiet_step (first | (go_at_call 64; with_reducible exact cL _ _) | (go_at_call 65; with_reducible exact cT _ _) | (go_at_call 63; with_reducible exact c3 _ _)) | quiet_step (first | (go_at_call 64; with_reducible exact cL _ _) | (go_at_call 65; with_reducible exact cT _ _) | (go_at_call 63; with_reducible exact c3 _ _)))
    refine wpQuiet_nil ?_
    intro _ hw'
    obtain ⟨⟨dq,osq⟩,hw''⟩ := hw'
    subst hw''
    have HB2 := Lib.hid (bchain HBW.out (below_regrown V dq osq))
    go_wp2_with fail
    go_ret
    exact ⟨ret_bool HE.out.symm,HB2.out⟩
   ·
    rw [b3] at c3
    rw [b3,Bool.true_and] at HE
    cases b4 : Wl.within x.mem 0 127
    ·
     rw [b4] at c4
     rw [b4,Bool.false_and] at HE
     clear HL HS
     go_enter Try.func60,Try.ntmps60
     go_wp2_with fail
     clear hW hV
     refine wp_region_quiet_below (by kernel_rfl) (by kernel_rfl) ?_
     repeat (first | go_big_quiet_step (first | (go_at_call 64; with_reducible exact cL _ _) | (go_at_call 65; with_reducible exact cT _ _) | (go_at_call 63; with_reducible exact c3 _ _) | (go_at_call 63; with_reducible exact c4 _ _)) | quiet_step (first | (go_at_call 64; with_reducible exact cL _ _) | (go_at_call 65; with_reducible exact cT _ _) | (go_at_call 63; with_reducible exact c3 _ _) | (go_at_call 63; with_reducible exact c4 _ _)))
     refine wpQuiet_nil ?_
     intro _ hw'
     obtain ⟨⟨dq,osq⟩,hw''⟩ := hw'
     subst hw''
     have HB2 := Lib.hid (bchain HBW.out (below_regrown V dq osq))
     go_wp2_with fail
     go_ret
     exact ⟨ret_bool HE.out.symm,HB2.out⟩
    ·
     rw [b4] at c4
     rw [b4,Bool.true_and] at HE
     by_cases b5 : (x.data.size : Int) ≤ 1100
     ·
      have d5 := decide_eq_true b5
      rw [d5,Bool.true_and] at HE
      clear b5
      cases b6 : (x.mem == 0)
      ·
       rw [b6,Bool.false_or] at HE
       cases b7 : (x.data.toList == [])
       ·
        rw [b7] at HE
        clear HL HS
        go_enter Try.func60,Try.ntmps60
        go_wp2_with fail
        clear hW hV
        refine wp_region_quiet_below (by kernel_rfl) (by kernel_rfl) ?_
        repeat (first | go_big_quiet_step (first | (go_at_call 64; with_reducible exact cL _ _) | (go_at_call 65; with_reducible exact cT _ _) | (go_at_call 63; with_reducible exact c3 _ _) | (go_at_call 63; with_reducible exact c4 _ _)) | quiet_step (first | (go_at_call 64; with_reducible exact cL _ _) | (go_at_call 65; with_reducible exact cT _ _) | (go_at_call 63; with_reducible exact c3 _ _) | (go_at_call 63; with_reducible exact c4 _ _)))
        refine wpQuiet_nil ?_
        intro _ hw'
        obtain ⟨⟨dq,osq⟩,hw''⟩ := hw'
        subst hw''
        have HB2 := Lib.hid (bchain HBW.out (below_regrown V dq osq))
        go_wp2_with fail
        go_ret
        exact ⟨ret_bool HE.out.symm,HB2.out⟩
       ·
        rw [b7] at HE
        clear HL HS
        go_enter Try.func60,Try.ntmps60
        go_wp2_with fail
        clear hW hV
        refine wp_region_quiet_below (by kernel_rfl) (by kernel_rfl) ?_
        repeat (first | go_big_quiet_step (first | (go_at_call 64; with_reducible exact cL _ _) | (go_at_call 65; with_reducible exact cT _ _) | (go_at_call 63; with_reducible exact c3 _ _) | (go_at_call 63; with_reducible exact c4 _ _)) | quiet_step (first | (go_at_call 64; with_reducible exact cL _ _) | (go_at_call 65; with_reducible exact cT _ _) | (go_at_call 63; with_reducible exact c3 _ _) | (go_at_call 63; with_reducible exact c4 _ _)))
        refine wpQuiet_nil ?_
        intro _ hw'
        obtain ⟨⟨dq,osq⟩,hw''⟩ := hw'
        subst hw''
        have HB2 := Lib.hid (bchain HBW.out (below_regrown V dq osq))
        go_wp2_with fail
        go_ret
        exact ⟨ret_bool HE.out.symm,HB2.out⟩
      ·
       rw [b6,Bool.true_or] at HE
       clear HL HS
       go_enter Try.func60,Try.ntmps60
       go_wp2_with fail
       clear hW hV
       refine wp_region_quiet_below (by kernel_rfl) (by kernel_rfl) ?_
       repeat (first | go_big_quiet_step (first | (go_at_call 64; with_reducible exact cL _ _) | (go_at_call 65; with_reducible exact cT _ _) | (go_at_call 63; with_reducible exact c3 _ _) | (go_at_call 63; with_reducible exact c4 _ _)) | quiet_step (first | (go_at_call 64; with_reducible exact cL _ _) | (go_at_call 65; with_reducible exact cT _ _) | (go_at_call 63; with_reducible exact c3 _ _) | (go_at_call 63; with_reducible exact c4 _ _)))
       refine wpQuiet_nil ?_
       intro _ hw'
       obtain ⟨⟨dq,osq⟩,hw''⟩ := hw'
       subst hw''
       have HB2 := Lib.hid (bchain HBW.out (below_regrown V dq osq))
       go_wp2_with fail
       go_ret
       exact ⟨ret_bool HE.out.symm,HB2.out⟩
     ·
      have d5 := decide_eq_false b5
      rw [d5,Bool.false_and] at HE
      clear b5
      clear HL HS
      go_enter Try.func60,Try.ntmps60
      go_wp2_with fail
      clear hW hV
      refine wp_region_quiet_below (by kernel_rfl) (by kernel_rfl) ?_
      repeat (first | go_big_quiet_step (first | (go_at_call 64; with_reducible exact cL _ _) | (go_at_call 65; with_reducible exact cT _ _) | (go_at_call 63; with_reducible exact c3 _ _) | (go_at_call 63; with_reducible exact c4 _ _)) | quiet_step (first | (go_at_call 64; with_reducible exact cL _ _) | (go_at_call 65; with_reducible exact cT _ _) | (go_at_call 63; with_reducible exact c3 _ _) | (go_at_call 63; with_reducible exact c4 _ _)))
      refine wpQuiet_nil ?_
      intro _ hw'
      obtain ⟨⟨dq,osq⟩,hw''⟩ := hw'
      subst hw''
      have HB2 := Lib.hid (bchain HBW.out (below_regrown V dq osq))
      go_wp2_with fail
      go_ret
      exact ⟨ret_bool HE.out.symm,HB2.out⟩
  ·
   have d2 := decide_eq_false b2
   rw [d2,Bool.false_and] at HE
   clear b2
   clear HL HS
   go_enter Try.func60,Try.ntmps60
   go_wp2_with fail
   clear hW hV
   refine wp_region_quiet_below (by kernel_rfl) (by kernel_rfl) ?_
   repeat (first | go_big_quiet_step (first | (go_at_call 64; with_reducible exact cL _ _)) | quiet_step (first | (go_at_call 64; with_reducible exact cL _ _)))
   refine wpQuiet_nil ?_
   intro _ hw'
   obtain ⟨⟨dq,osq⟩,hw''⟩ := hw'
   subst hw''
   have HB2 := Lib.hid (bchain HBW.out (below_regrown V dq osq))
   go_wp2_with fail
   go_ret
   exact ⟨ret_bool HE.out.symm,HB2.out⟩
 ·
  have d1 := decide_eq_false b1
  rw [d1,Bool.false_and] at HE
  clear b1 cL
  clear HL HS
  go_enter Try.func60,Try.ntmps60
  go_wp2_with fail
  clear hW hV
  refine wp_region_quiet_below (by kernel_rfl) (by kernel_rfl) ?_
  repeat (first | go_big_quiet_step (first | fail) | quiet_step (first | fail))
  refine wpQuiet_nil ?_
  intro _ hw'
  obtain ⟨⟨dq,osq⟩,hw''⟩ := hw'
  subst hw''
  have HB2 := Lib.hid (bchain HBW.out (below_regrown V dq osq))
  go_wp2_with fail
  go_ret
  exact ⟨ret_bool HE.out.symm,HB2.out⟩
end Go.Proofs.Ytagjbjppddbalaa
namespace Go.Proofs.Ytagjbjppddbalaa.Et
open Go.RowKit
open Mem
def rv (r : T) : List Value := [.int .i64 r.term,.int .i64 r.mem,.string r.data]
theorem rv_len (r : T) : (rv r).length = 3 := rfl
theorem flat_len : ∀ rs : List T,(rs.flatMap rv).length = rs.length * 3
 | [] => rfl
 | r :: l => by
  rw [List.flatMap_cons,List.length_append,rv_len,flat_len l,List.length_cons]
  omega
theorem flat_at : ∀ (rs : List T) (k p : Nat) (hk : k < rs.length),p < 3 → (rs.flatMap rv)[k * 3 + p]? = (rv rs[k])[p]?
 | r :: l,0,p,_,hp => by
  rw [List.flatMap_cons,List.getElem?_append_left (by rw [rv_len]; omega),Nat.zero_mul,Nat.zero_add]
  rfl
 | r :: l,k + 1,p,hk,hp => by
  rw [List.flatMap_cons,List.getElem?_append_right (by rw [rv_len]; omega),rv_len,show (k + 1) * 3 + p - 3 = k * 3 + p by omega]
  exact flat_at l k p (by simpa using hk) hp
theorem one_cell (rs : List T) : ∀ v ∈ rs.flatMap rv,v.oneCell' = true := by
 intro v hv
 obtain ⟨r,_,h⟩ := List.mem_flatMap.1 hv
 unfold rv at h
 simp only [List.mem_cons,List.not_mem_nil,or_false] at h
 rcases h with rfl | rfl | rfl <;> rfl
theorem news_of {w : World} {b off : Nat} {rs : List T} (h : ∀ (k : Nat) (hk : k < rs.length),At w b (off + k * 3) rs[k]) (j : Nat) (u : Value) (hu : (rs.flatMap rv)[j]? = some u) : w.cell? ((⟨b,off,none⟩ : Addr).add j) = some u := by
 have hj : j < (rs.flatMap rv).length := by
  obtain ⟨hj,_⟩ := List.getElem?_eq_some_iff.1 hu
  exact hj
 rw [flat_len] at hj
 obtain ⟨k,p,rfl,hp⟩ : ∃ k p,j = k * 3 + p ∧ p < 3 := ⟨j / 3,j % 3,by omega,by omega⟩
 have hk : k < rs.length := by omega
 rw [flat_at rs k p hk hp] at hu
 have ha : (⟨b,off,none⟩ : Addr).add (k * 3 + p) = ⟨b,off + k * 3 + p,none⟩ := by
  unfold Addr.add
  split
  ·
   rename_i e
   simp only [Addr.mk.injEq,true_and,and_true]
   omega
  ·
   simp only [Addr.mk.injEq,true_and,and_true]
   omega
 rw [ha]
 obtain ⟨c0,c1,c2⟩ := h k hk
 have hp' : p = 0 ∨ p = 1 ∨ p = 2 := by omega
 unfold rv at hu
 rcases hp' with rfl | rfl | rfl
 all_goals simp at hu
 all_goals subst hu
 · exact c0
 · exact c1
 · exact c2
def Own (w : World) (B : Nat) (v : Value) (xs : List T) : Prop := w.ownsRow B 36 3 v xs.length (xs.flatMap rv)
theorem own_nil (w : World) (B : Nat) : Own w B (.slice none 0 0) [] := ⟨rfl,.inl ⟨rfl,rfl⟩⟩
theorem own_ls {w : World} {B : Nat} {v : Value} {xs : List T} (h : Own w B v xs) (hs : ∀ r ∈ xs,Short r) : ∃ ao cap,v = .slice ao xs.length cap ∧ Ls w ao xs.length cap xs ∧ (∀ ad,ao = some ad → ∃ g,ad = ⟨g,0,none⟩ ∧ B ≤ g) := by
 rcases h.2 with ⟨h',h2⟩ | ⟨g,cap,cur,h',hb,hg,hnc,hcm,hcs,htake⟩
 ·
  have e : xs = [] := List.length_eq_zero_iff.1 h2
  subst e
  exact ⟨none,0,h',⟨rfl,Nat.le_refl _,by omega,fun _ => rfl,.inl rfl,hs⟩,fun ad k => by cases k⟩
 ·
  refine ⟨some ⟨g,0,none⟩,cap,h',⟨rfl,hnc,hcm,fun k => (by cases k),.inr ⟨g,0,rfl,fun k hk => ?_⟩,hs⟩,fun ad k => by cases k; exact ⟨g,rfl,hb⟩⟩
  have hcell : ∀ p,p < 3 → w.cell? ⟨g,0 + k * 3 + p,none⟩ = (rv xs[k])[p]? := by
   intro p hp
   rw [Nat.zero_add,cell_of_row w g _ _ _ _ hg,← flat_at xs k p hk hp,← htake,List.getElem?_take_of_lt (by omega)]
   simp
  exact ⟨hcell 0 (by omega),hcell 1 (by omega),hcell 2 (by omega)⟩
def zero : T := ⟨0,0,.empty⟩
def zeroV : Value := .agg #[.int .i64 0,.int .i64 0,.string .empty]
theorem info : (Try.prog.info? 36).map (fun i => (i.zero,i.size,i.bytes)) = some (some zeroV,3,32) := by kernel_rfl
theorem wp_append {o : Oper} {a : Act} {K : Act → World → Prop} {Q : Exit → Act → World → Prop} (w : World) (s x : Operand)
  (ho : o.op = .call { callee := .builtin .append,args := #[s,x],argTypes := #[22,22] })
  (B : Nat) (v : Value) (xs : List T) (hs : a.eval s = v) (hown : Own w B v xs)
  (ao : Option Addr) (n cap : Nat) (zs : List T) (hx : a.eval x = .slice ao n cap) (hn : n = zs.length) (hnil : ao = none → cap = 0) (hsrc : Seg w ao zs) (hl : (xs.length + n) * 32 ≤ 140737488355328) (hb : B ≤ w.heap.size)
  (h : ∀ v' w1,Own w1 B v' (xs ++ zs) → w.grownBy w1 v.ownBlock → (v'.ownBlock = v.ownBlock ∨ v'.ownBlock = some w.heap.size) → K (a.put o.dst v') w1) : o.wp Try.prog a w K Q := by
 have hzs : zeroV.cells.size = 3 := rfl
 obtain ⟨i0,hi,hz0,hz1,hz2⟩ := info_parts info
 have hmx : maxLen = 9223372036854775807 := rfl
 have empty : zs = [] → n = 0 → Own w B v (xs ++ zs) := by
  intro e _
  rw [e,List.append_nil]
  exact hown
 cases ao with
 | none =>
  obtain rfl : cap = 0 := hnil rfl
  rcases hsrc with e | ⟨b,off,e,_⟩
  ·
   obtain rfl : n = 0 := by rw [hn,e]; rfl
   have hrun := run_append_owned_none (P := Try.prog) (w := w) B 22 o.type 36 i0 3 Try.underlying22 hi v _ _ hown
   unfold Oper.wp
   simp [execOp,ho,resolve,invoke,builtin,hs,hx,hrun,Result.andThen]
   exact h v w (empty e rfl) ⟨rfl,rfl,rfl,Nat.le_refl _,fun _ _ _ => rfl⟩ (.inl rfl)
  · cases e
 | some ad =>
  obtain ⟨v',w',hr,h2,h3,_,h5⟩ := run_append_own_at (P := Try.prog) w B 22 o.type 36 i0 zeroV 3 32 Try.underlying22 hi hz0 hz1 hz2 hzs (by omega) v xs.length (xs.flatMap rv) hown ad n cap (zs.flatMap rv) (by rw [flat_len,hn]) (by
   rcases hsrc with e | ⟨b,off,e,hc⟩
   ·
    rw [e]
    intro j u hu
    simp at hu
   ·
    cases e
    exact fun j u hu => news_of hc j u hu) (one_cell zs) (by omega) hl hb
  unfold Oper.wp execOp
  simp only [ho,resolve,invoke,builtin,Sem.run_bind,Sem.run_pure,Result.andThen_ok,List.map_toArray,List.map_cons,List.map_nil,hs,hx,hr]
  refine h v' w' ?_ h3 h5
  unfold Own
  rw [List.flatMap_append,List.length_append,← hn]
  exact h2
theorem wpList_append {ops : Array Oper} {rest : List Oper} {o : Oper} {a : Act} {Q : Exit → Act → World → Prop} (w : World) (hgd : o.guard = none) (s x : Operand)
  (ho : o.op = .call { callee := .builtin .append,args := #[s,x],argTypes := #[22,22] })
  (B : Nat) (v : Value) (xs : List T) (hs : a.eval s = v) (hown : Own w B v xs)
  (ao : Option Addr) (n cap : Nat) (zs : List T) (hx : a.eval x = .slice ao n cap) (hn : n = zs.length) (hnil : ao = none → cap = 0) (hsrc : Seg w ao zs) (hl : (xs.length + n) * 32 ≤ 140737488355328) (hb : B ≤ w.heap.size)
  (h : ∀ v' w1,Own w1 B v' (xs ++ zs) → w.grownBy w1 v.ownBlock → (v'.ownBlock = v.ownBlock ∨ v'.ownBlock = some w.heap.size) → wpList Try.prog ops Q rest (a.put o.dst v') w1) : wpList Try.prog ops Q (o :: rest) a w :=
 wpList_plain hgd fun _ hK => wp_append w s x ho B v xs hs hown ao n cap zs hx hn hnil hsrc hl hb fun v' w1 h1 h2 h3 => hK _ _ (h v' w1 h1 h2 h3)
theorem own_ge {w : World} {B : Nat} {v : Value} {xs : List T} (h : Own w B v xs) : ∀ k,v.ownBlock = some k → B ≤ k := by
 intro k hk
 rcases h.2 with ⟨h',_⟩ | ⟨g,cap,cur,h',hb,_⟩
 ·
  rw [h'] at hk
  cases hk
 ·
  rw [h'] at hk
  simp only [Value.ownBlock,Option.some.injEq] at hk
  omega
theorem own_mono {w : World} {B C : Nat} {v : Value} {xs : List T} (h : Own w B v xs) (hc : C ≤ B) : Own w C v xs := by
 obtain ⟨h1,h2⟩ := h
 refine ⟨h1,?_⟩
 rcases h2 with h2 | ⟨g,cap,cur,h',hb,h3⟩
 · exact .inl h2
 · exact .inr ⟨g,cap,cur,h',by omega,h3⟩
theorem own_empty {X : World} {B g : Nat} (hB : B ≤ g) (hg : X.heap[g]? = some (.cells #[] 36 (0,0))) : Own X B (.slice (some ⟨g,0,none⟩) 0 0) [] :=
 ⟨rfl,.inr ⟨g,0,#[],rfl,hB,hg,Nat.le_refl _,Nat.zero_le _,rfl,rfl⟩⟩
theorem own_alloc {w : World} {B : Nat} {v : Value} {xs : List T} (h : Own w B v xs) (o : Obj) : Own (w.alloc o) B v xs := World.ownsRow.alloc h o
theorem own_drew {w : World} {B : Nat} {v : Value} {M : List T} (h : Own w B v M) : Own w.drew B v M := h
theorem own_below {w u : World} {B : Nat} {v : Value} {xs : List T} (h : Own w B v xs) (k : Below w.heap.size w u) : Own u B v xs := by
 obtain ⟨h1,h2⟩ := h
 refine ⟨h1,?_⟩
 rcases h2 with h2 | ⟨g,cap,cur,h',hb,hg,h3⟩
 · exact .inl h2
 ·
  refine .inr ⟨g,cap,cur,h',hb,?_,h3⟩
  have hl : g < w.heap.size := by
   obtain ⟨hl,_⟩ := Array.getElem?_eq_some_iff.1 hg
   exact hl
  rw [k.block g hl]
  exact hg
def block (r : T) : Obj := .cells #[.int .i64 r.term,.int .i64 r.mem,.string r.data] 36 (0,0)
theorem seg_block {X : World} {g : Nat} {r : T} (h : X.heap[g]? = some (block r)) : Seg X (some ⟨g,0,none⟩) [r] := by
 refine .inr ⟨g,0,rfl,fun k hk => ?_⟩
 obtain rfl : k = 0 := by simpa using hk
 unfold block at h
 refine ⟨?_,?_,?_⟩
 all_goals rw [cell_of_row X g _ _ _ _ h]
 all_goals rfl
theorem step_append {ops : Array Oper} {o : Oper} {a : Act} {K : Act → World → Prop} {Q : Exit → Act → World → Prop} {E : Prop} (X x : World) (hX : Below x.heap.size x X) (hgd : o.guard = none) (s t : Operand)
  (ho : o.op = .call { callee := .builtin .append,args := #[s,t],argTypes := #[22,22] })
  (v : Value) (xs : List T) (hs : a.eval s = v) (hown : Own X x.heap.size v xs)
  (ao : Option Addr) (n cap : Nat) (zs : List T) (ht : a.eval t = .slice ao n cap) (hn : n = zs.length) (hnil : ao = none → cap = 0) (hsrc : Seg X ao zs) (hl : xs.length + n ≤ 100000)
  (h : ∀ v' w1,Own w1 x.heap.size v' (xs ++ zs) → X.grownBy w1 v.ownBlock → Below x.heap.size x w1 → K (a.put o.dst v') w1) :
  if Region.wanted o (yielded ops a.tmps) = true then Oper.wp Try.prog o a X K Q else E := by
 have hw : Region.wanted o (yielded ops a.tmps) = true := by simp [Region.wanted,hgd]
 rw [if_pos hw]
 exact wp_append X s t ho x.heap.size v xs hs hown ao n cap zs ht hn hnil hsrc (by omega) hX.size fun v' w1 h1 h2 _ => h v' w1 h1 h2 (hX.grown h2 hX.size (own_ge hown))
end Go.Proofs.Ytagjbjppddbalaa.Et
namespace Go.Proofs.Ytagjbjppddbalaa.Hd
open Go.RowKit
open Mem
structure At (u : World) (b o : Nat) (r : T) : Prop where
 c0 : u.cell? ⟨b,o,none⟩ = some (.int .i64 r.term)
 c1 : u.cell? ⟨b,o + 1,none⟩ = some (.int .i64 r.vote)
 c2 : u.cell? ⟨b,o + 2,none⟩ = some (.int .i64 r.base)
 c3 : u.cell? ⟨b,o + 3,none⟩ = some (.int .i64 r.bt)
 c4 : u.cell? ⟨b,o + 4,none⟩ = some (.int .i64 r.mem)
 c5 : u.cell? ⟨b,o + 5,none⟩ = some (.string r.snap)
 c6 : u.cell? ⟨b,o + 6,none⟩ = some (.slice r.log.ao r.log.n r.log.cap)
theorem At.below {u v : World} {b o : Nat} {r : T} (h : At u b o r) (k : Below u.heap.size u v) : At v b o r := by
 have hl := cell_lt h.c0
 exact ⟨by rw [(bcell k).1 _ _ hl]; exact h.c0,by rw [(bcell k).1 _ _ hl]; exact h.c1,by rw [(bcell k).1 _ _ hl]; exact h.c2,by rw [(bcell k).1 _ _ hl]; exact h.c3,by rw [(bcell k).1 _ _ hl]; exact h.c4,by rw [(bcell k).1 _ _ hl]; exact h.c5,by rw [(bcell k).1 _ _ hl]; exact h.c6⟩
def Seg (w : World) (ao : Option Addr) (rs : List T) : Prop := rs = [] ∨ ∃ b off,ao = some ⟨b,off,none⟩ ∧ ∀ (k : Nat) (hk : k < rs.length),At w b (off + k * 7) rs[k]
theorem Seg.below {w v : World} {ao : Option Addr} {rs : List T} (h : Seg w ao rs) (k : Below w.heap.size w v) : Seg v ao rs := by
 rcases h with h | ⟨b,off,e,h⟩
 · exact .inl h
 · exact .inr ⟨b,off,e,fun i hi => (h i hi).below k⟩
structure Ls (w : World) (ao : Option Addr) (n cap : Nat) (rs : List T) : Prop where
 len : n = rs.length
 fits : n ≤ cap
 reach : cap ≤ 9223372036854775807
 nil : ao = none → cap = 0
 seg : Seg w ao rs
 short : ∀ r ∈ rs,Short r
theorem Ls.below {w v : World} {ao : Option Addr} {n cap : Nat} {rs : List T} (h : Ls w ao n cap rs) (k : Below w.heap.size w v) : Ls v ao n cap rs :=
 ⟨h.len,h.fits,h.reach,h.nil,h.seg.below k,h.short⟩
theorem Ls.at {w : World} {ao : Option Addr} {n cap : Nat} {rs : List T} (h : Ls w ao n cap rs) (hn : 0 < n) : ∃ b off,ao = some ⟨b,off,none⟩ := by
 rcases h.seg with e | ⟨b,off,e,_⟩
 ·
  have := h.len
  rw [e] at this
  simp at this
  omega
 · exact ⟨b,off,e⟩
theorem Ls.row {w : World} {b off n cap : Nat} {rs : List T} (h : Ls w (some ⟨b,off,none⟩) n cap rs) (k : Nat) (hk : k < rs.length) : At w b (off + k * 7) rs[k] := by
 rcases h.seg with e | ⟨b',off',e,hs⟩
 ·
  subst e
  simp at hk
 ·
  cases e
  exact hs k hk
theorem ls_nil (w : World) : Ls w none 0 0 [] := ⟨rfl,Nat.le_refl _,by omega,fun _ => rfl,.inl rfl,by simp⟩
end Go.Proofs.Ytagjbjppddbalaa.Hd
