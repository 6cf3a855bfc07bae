/- MERGED: Plain, TxtN, MemK, Pk, ByK, PkW, PkX, ByA, ByB. (By mg.py.) -/
import Derived.Test.YtndfhnaafaijcaaRows
import Derived.WalkKit
import Derived.WalkLawsBesides
import Derived.Laws.BitsAllLaws
import Derived.Deep.QuietTactic
import Derived.BigQuiet
import Derived.WalkSmall
import Derived.WalkSpells
import Derived.Lib.Hide
import Derived.Lib.OthersKept
import Derived.Laws.Strings3
import Derived.Laws.Runes
import Derived.Laws.Concat
import Derived.Deep.RegionHeld3
import Derived.Maps.AppendAt
import Derived.Laws.AppendOwnNone
import Derived.Laws.Rows
import Derived.Laws.CopyOwn
import Derived.Laws.MakeOwn
import Derived.Laws.BytesArg
import Derived.Lib.Zigzag
import Derived.Lib.VarintBits
import Derived.Lib.QuietBelow
/- WHAT A WALK OVER NUMBERS ALONE NEEDS. -/
namespace Go.Proofs.Ytndfhnaafaijcaa
open Go.RowKit

theorem ret_bool {a b : Bool} (h : a = b) : Ending.returned (.bool a) = .returned (.bool b) := by rw [h]
theorem ret_int {a b : Int} (h : a = b) : Ending.returned (.int .i64 a) = .returned (.int .i64 b) := by rw [h]
theorem ret_u64 {a b : Int} (h : a = b) : Ending.returned (.int .u64 a) = .returned (.int .u64 b) := by rw [h]
/-- two numbers answered -/
def both (v e : Int) : Ending := .returned (.tuple #[.int .i64 v, .int .i64 e])
theorem both_eq {a b c d : Int} (h : a = b) (k : c = d) : both a c = both b d := by rw [h, k]
def Fit (x : Int) : Prop := -9223372036854775808 ≤ x ∧ x ≤ 9223372036854775807
theorem fit_in {a : Int} (h : (Lit.int .i64 a).wf = true) : Fit a := by
  simpa [Lit.wf, IntKind.min, IntKind.max, IntKind.signed, IntKind.bits, Fit] using h
end Go.Proofs.Ytndfhnaafaijcaa

/- TEXTS, as the contracts speak of them (no table of the library beside). -/
namespace Go.Proofs.Ytndfhnaafaijcaa
open Go.RowKit

def txt (s : ByteArray) : List UInt8 := s.data.toList
theorem txt_len (s : ByteArray) : (txt s).length = s.size := Array.length_toList
theorem txt_ext {s t : ByteArray} (h : txt s = txt t) : s = t := by
  cases s; cases t
  simp only [txt] at h
  exact congrArg ByteArray.mk (Array.toList_inj.1 h)
theorem ret_str {a b : ByteArray} (h : a = b) : Ending.returned (.string a) = .returned (.string b) := by rw [h]
theorem tl (s : ByteArray) : s.toList = txt s := ByteArray.toList_eq s
theorem size_mk (l : List UInt8) : (ByteArray.mk l.toArray).size = l.length := rfl
theorem txt_mk (l : List UInt8) : txt (ByteArray.mk l.toArray) = l := rfl
theorem mk_txt (s : ByteArray) : s = ⟨(txt s).toArray⟩ := rfl
theorem fits {s : ByteArray} (h : s.data.toList.length ≤ reachBytes) : s.size ≤ 140737488355328 := by
  have h1 := txt_len s
  unfold txt at h1
  unfold reachBytes at h
  omega
theorem txt_app (a b : ByteArray) : txt (a ++ b) = txt a ++ txt b := by simp [txt, ByteArray.data_append]
theorem add_run (a b : ByteArray) (h : a.size + b.size ≤ 9223372036854775807) : ∃ t, a ++ b = t ∧ txt t = txt a ++ txt b ∧ t.size = a.size + b.size ∧ ∀ u, (Op.stringOp .add a b).run Try.prog u = .ok (.string t) u :=
  ⟨_, rfl, txt_app a b, by simp, fun u => run_string_add_sum u a b h⟩
theorem add_lists (a b : List UInt8) (h : a.length + b.length ≤ 100) : ∀ u, (Op.stringOp .add ⟨a.toArray⟩ ⟨b.toArray⟩).run Try.prog u = .ok (.string ⟨(a ++ b).toArray⟩) u := by
  intro u
  rw [run_string_add_sum u _ _ (by rw [size_mk, size_mk]; omega), ByteArray.mk_append_mk]
end Go.Proofs.Ytndfhnaafaijcaa

/- MEMORY BEHIND A WORLD's END: what every kit of rows takes. -/
namespace Go.Proofs.Ytndfhnaafaijcaa.Mem
open Go.RowKit

theorem below_box {w0 w : World} (h : Below w0.heap.size w0 w) (o : Obj) : Below w0.heap.size w0 (w.alloc o) := h.alloc h.size o
theorem bcell {W w1 : World} (hb : Below W.heap.size W w1) : (∀ b o, b < W.heap.size → w1.cell? ⟨b, o, none⟩ = W.cell? ⟨b, o, none⟩) ∧ (∀ b o, b < W.heap.size → w1.frozen? ⟨b, o, none⟩ = W.frozen? ⟨b, o, none⟩) :=
  ⟨fun b o h => hb.cell (p := ⟨b, o, none⟩) h, fun b o h => hb.frozen (p := ⟨b, o, none⟩) h⟩
theorem cell_lt {u : World} {b o : Nat} {v : Value} (h : u.cell? ⟨b, o, none⟩ = some v) : b < u.heap.size := by
  by_cases k : b < u.heap.size
  · exact k
  · exfalso
    simp [World.cell?, Array.getElem?_eq_none (Nat.le_of_not_lt k)] at h
theorem bchain {w0 u v : World} (h : Below w0.heap.size w0 u) (k : Below u.heap.size u v) : Below w0.heap.size w0 v := h.trans (k.mono h.size)
theorem bset {w0 u : World} {p : Nat} (h : Below w0.heap.size w0 u) (hp : w0.heap.size ≤ p) (o : Nat) (x : Value) : Below w0.heap.size w0 (u.setCell ⟨p, o, none⟩ x) := h.setCell hp x
theorem heap_old {x : World} {o o' : Obj} {g : Nat} (h : x.heap[g]? = some o) : (x.alloc o').heap[g]? = some o := by
  have hg : g < x.heap.size := by
    obtain ⟨hg, _⟩ := Array.getElem?_eq_some_iff.1 h
    exact hg
  rw [← h]
  exact (((Below.refl x.heap.size x).alloc (Nat.le_refl _) o').block g hg)
theorem heap_next (x : World) (o o' : Obj) : ((x.alloc o).alloc o').heap[x.heap.size + 1]? = some o' := by
  have h := heap_alloc_new (x.alloc o) o'
  have e : (x.alloc o).heap.size = x.heap.size + 1 := by simp
  rw [e] at h
  exact h
theorem blk_keep {X y : World} {row : Option Nat} {g : Nat} {o : Obj} (gr : X.grownBy y row) (h : X.heap[g]? = some o) (hne : some g ≠ row) : y.heap[g]? = some o := by
  have hg : g < X.heap.size := by
    obtain ⟨hg, _⟩ := Array.getElem?_eq_some_iff.1 h
    exact hg
  rw [gr.block g hg hne]
  exact h
end Go.Proofs.Ytndfhnaafaijcaa.Mem

/- PLAIN LEAN: numbers and texts as bytes (chapter 2's form), written and read; no Go walked here. -/
namespace Go.Proofs.Ytndfhnaafaijcaa.Pk

/-- the sign put lowest -/
def zz (n : Int) : Nat := if n < 0 then (-2 * n - 1).toNat else (2 * n).toNat
/-- and taken from there -/
def uz (u : Nat) : Int := if u % 2 = 1 then -((u / 2 : Nat) : Int) - 1 else ((u / 2 : Nat) : Int)
theorem uz_zz (n : Int) : uz (zz n) = n := by
  unfold uz zz
  split <;> split <;> omega
theorem zz_uz (u : Nat) : zz (uz u) = u := by
  unfold uz zz
  split <;> split <;> omega
theorem zz_lt {n : Int} (h : Fit n) : zz n < 18446744073709551616 := by
  unfold Fit at h
  unfold zz
  split <;> omega
theorem uz_fit {u : Nat} (h : u < 18446744073709551616) : Fit (uz u) := by
  unfold uz Fit
  split <;> omega
/-- a number's bytes: seven bits each, the lowest first; f: how many at most -/
def vbF : Nat → Nat → List UInt8
  | 0, _ => []
  | f + 1, u => if u < 128 then [UInt8.ofNat u] else UInt8.ofNat (u % 128 + 128) :: vbF f (u / 128)
def vb (u : Nat) : List UInt8 := vbF 10 u
theorem vbF_low {f u : Nat} (h : u < 128) : vbF (f + 1) u = [UInt8.ofNat u] := by rw [vbF, if_pos h]
theorem vbF_high {f u : Nat} (h : ¬ u < 128) : vbF (f + 1) u = UInt8.ofNat (u % 128 + 128) :: vbF f (u / 128) := by rw [vbF, if_neg h]
theorem vbF_len : ∀ (f u : Nat), (vbF f u).length ≤ f
  | 0, _ => Nat.le_refl _
  | f + 1, u => by
    rw [vbF]
    split
    · simp
    · simp
      exact vbF_len f _
theorem vbF_pos {f u : Nat} : 1 ≤ (vbF (f + 1) u).length := by
  rw [vbF]
  split <;> simp
/-- what is left behind so many bytes -/
def sh (u i : Nat) : Nat := u / 128 ^ i
theorem sh_zero (u : Nat) : sh u 0 = u := by simp [sh]
theorem sh_succ (u i : Nat) : sh u (i + 1) = sh u i / 128 := by
  unfold sh
  rw [Nat.pow_succ, Nat.div_div_eq_div_mul]
theorem sh_le (u i : Nat) : sh u i ≤ u := Nat.div_le_self _ _
/-- what is left at most, behind so many bytes less one -/
def lim (c : Nat) : Nat := 2 * 128 ^ (10 - c)
theorem lim_one : lim 1 = 18446744073709551616 := by decide
theorem lim_ten : lim 10 = 2 := by decide
theorem lim_step {c : Nat} (h : c < 10) : lim c = 128 * lim (c + 1) := by
  unfold lim
  rw [show 10 - c = (10 - (c + 1)) + 1 by omega, Nat.pow_succ, Nat.mul_comm (128 ^ (10 - (c + 1))) 128, ← Nat.mul_assoc, ← Nat.mul_assoc, Nat.mul_comm 2 128]
/-- how many bytes -/
def wd (u : Nat) : Nat := (vb u).length
/-- where a number stands that is read so: the value so far, the place; an error, or the number and how many bytes it took -/
def rd : Nat → Nat → List UInt8 → Int ⊕ (Nat × Nat)
  | _, _, [] => .inl 3
  | k, u, x :: l => if k = 9 ∧ 1 < x.toNat then .inl 4 else if 128 ≤ x.toNat then rd (k + 1) (u + x.toNat % 128 * 128 ^ k) l else if x.toNat = 0 ∧ 0 < k then .inl 4 else .inr (u + x.toNat * 128 ^ k, k + 1)
def num (l : List UInt8) : Int ⊕ (Nat × Nat) := rd 0 0 l
theorem rd_nil (k u : Nat) : rd k u [] = .inl 3 := rfl
theorem rd_ten {k u : Nat} {x : UInt8} {l : List UInt8} (h : k = 9) (hx : 1 < x.toNat) : rd k u (x :: l) = .inl 4 := by rw [rd, if_pos ⟨h, hx⟩]
theorem rd_more {k u : Nat} {x : UInt8} {l : List UInt8} (h : ¬ (k = 9 ∧ 1 < x.toNat)) (hx : 128 ≤ x.toNat) : rd k u (x :: l) = rd (k + 1) (u + x.toNat % 128 * 128 ^ k) l := by rw [rd, if_neg h, if_pos hx]
theorem rd_zero {k u : Nat} {x : UInt8} {l : List UInt8} (hx : x.toNat = 0) (hk : 0 < k) : rd k u (x :: l) = .inl 4 := by rw [rd, if_neg (by omega), if_neg (by omega), if_pos ⟨hx, hk⟩]
theorem rd_last {k u : Nat} {x : UInt8} {l : List UInt8} (h : ¬ (k = 9 ∧ 1 < x.toNat)) (hx : x.toNat < 128) (h0 : ¬ (x.toNat = 0 ∧ 0 < k)) : rd k u (x :: l) = .inr (u + x.toNat * 128 ^ k, k + 1) := by rw [rd, if_neg h, if_neg (by omega), if_neg h0]
theorem byte_nat {n : Nat} (h : n < 256) : (UInt8.ofNat n).toNat = n := by
  simp
  omega
/-- what is written is read back, whatever stands behind it -/
theorem rd_vb : ∀ (f k u a : Nat) (r : List UInt8), k + f = 10 → u < 128 ^ f → (1 ≤ f → u < 2 * 128 ^ (9 - k)) → (0 < k → 0 < u) → 1 ≤ f → rd k a (vbF f u ++ r) = .inr (a + u * 128 ^ k, k + (vbF f u).length)
  | 0, _, _, _, _, _, _, _, _, h => by omega
  | f + 1, k, u, a, r, hk, hu, h9, h0, _ => by
    by_cases hs : u < 128
    · rw [vbF_low hs, List.cons_append, List.nil_append, rd_last (by
        rintro ⟨rfl, hx⟩
        rw [byte_nat (by omega)] at hx
        have := h9 (by omega)
        omega) (by rw [byte_nat (by omega)]; exact hs) (by
        rw [byte_nat (by omega)]
        intro h
        have := h0 h.2
        omega), byte_nat (by omega)]
      simp
    · have hf : 1 ≤ f := by
        by_cases hf : 1 ≤ f
        · exact hf
        · obtain rfl : f = 0 := by omega
          simp at hu
          omega
      rw [vbF_high hs, List.cons_append, rd_more (by
        rintro ⟨rfl, hx⟩
        omega) (by rw [byte_nat (by omega)]; omega), byte_nat (by omega)]
      have hp : 128 ^ (9 - k) = 128 * 128 ^ (9 - (k + 1)) := by
        rw [show 9 - k = (9 - (k + 1)) + 1 by omega, Nat.pow_succ, Nat.mul_comm]
      have h9' := h9 (by omega)
      rw [hp] at h9'
      rw [Nat.pow_succ] at hu
      rw [rd_vb f (k + 1) (u / 128) _ r (by omega) (by omega) (fun _ => by omega) (fun _ => by omega) hf]
      congr 1
      have e1 : (u % 128 + 128) % 128 = u % 128 := by omega
      rw [e1, List.length_cons, Nat.pow_succ]
      refine Prod.ext ?_ (by dsimp only; omega)
      dsimp only
      have e2 : u = u % 128 + 128 * (u / 128) := by omega
      generalize 128 ^ k = P
      rw [Nat.add_assoc]
      congr 1
      calc u % 128 * P + u / 128 * (P * 128) = (u % 128 + 128 * (u / 128)) * P := by
            rw [Nat.add_mul, Nat.mul_comm P 128, ← Nat.mul_assoc, Nat.mul_comm (u / 128) 128]
        _ = u * P := by rw [← e2]
theorem num_vb {u : Nat} (h : u < 18446744073709551616) (r : List UInt8) : num (vb u ++ r) = .inr (u, wd u) := by
  unfold num vb wd
  rw [rd_vb 10 0 u 0 r rfl (by omega) (fun _ => by omega) (fun h => by omega) (by omega)]
  simp [vb]
/-- what is read as a number is what is written of it -/
theorem vb_rd : ∀ (l : List UInt8) (k a v s : Nat), k ≤ 9 → rd k a l = .inr (v, s) → ∃ u, v = a + u * 128 ^ k ∧ l = vbF (10 - k) u ++ l.drop (s - k) ∧ (vbF (10 - k) u).length = s - k ∧ k < s ∧ u < 2 * 128 ^ (9 - k) ∧ (0 < k → 0 < u)
  | [], k, a, v, s, _, h => by
    rw [rd_nil] at h
    cases h
  | x :: l, k, a, v, s, hk, h => by
    have hx := UInt8.toNat_lt x
    have hx256 : x.toNat < 256 := hx
    by_cases h9 : k = 9 ∧ 1 < x.toNat
    · rw [rd_ten h9.1 h9.2] at h
      cases h
    · by_cases hm : 128 ≤ x.toNat
      · rw [rd_more h9 hm] at h
        obtain ⟨u, e1, e2, e3, e4, e5, e6⟩ := vb_rd l (k + 1) _ v s (by omega) h
        have e0 := e6 (by omega)
        have hf : 10 - k = (9 - k) + 1 := by omega
        have hn : ¬ (x.toNat % 128 + 128 * u < 128) := by omega
        have ed : (x.toNat % 128 + 128 * u) / 128 = u := by omega
        have em : (x.toNat % 128 + 128 * u) % 128 + 128 = x.toNat := by omega
        have hv : vbF (10 - k) (x.toNat % 128 + 128 * u) = x :: vbF (10 - (k + 1)) u := by
          rw [hf, vbF_high hn, ed, em, show 10 - (k + 1) = 9 - k by omega]
          simp
        have hp : 128 ^ (9 - k) = 128 * 128 ^ (9 - (k + 1)) := by
          rw [show 9 - k = (9 - (k + 1)) + 1 by omega, Nat.pow_succ, Nat.mul_comm]
        refine ⟨x.toNat % 128 + 128 * u, ?_, ?_, ?_, by omega, ?_, fun _ => by omega⟩
        · rw [e1, Nat.pow_succ, Nat.add_mul, Nat.add_assoc]
          congr 2
          rw [Nat.mul_comm (128 ^ k) 128, ← Nat.mul_assoc, Nat.mul_comm u 128]
        · rw [hv, show s - k = (s - (k + 1)) + 1 by omega, List.drop_succ_cons, List.cons_append, ← e2]
        · rw [hv, List.length_cons, e3]
          omega
        · rw [hp]
          omega
      · by_cases hz : x.toNat = 0 ∧ 0 < k
        · rw [rd_zero hz.1 hz.2] at h
          cases h
        · rw [rd_last h9 (by omega) hz] at h
          injection h with h
          injection h with e1 e2
          subst e1 e2
          have hv : vbF (10 - k) x.toNat = [x] := by
            rw [show 10 - k = (9 - k) + 1 by omega, vbF_low (by omega)]
            simp
          have h1 : 1 ≤ 128 ^ (9 - k) := Nat.pos_of_ne_zero (by simp)
          refine ⟨x.toNat, rfl, ?_, ?_, by omega, ?_, fun _ => by omega⟩
          · rw [hv, show k + 1 - k = 1 by omega]
            rfl
          · rw [hv]
            simp
          · by_cases h99 : k = 9
            · subst h99
              simp
              omega
            · have : 128 ^ (9 - k) = 128 * 128 ^ (9 - k - 1) := by
                rw [show 9 - k = (9 - k - 1) + 1 by omega, Nat.pow_succ, Nat.mul_comm]
                simp
              have h2 : 1 ≤ 128 ^ (9 - k - 1) := Nat.pos_of_ne_zero (by simp)
              omega
theorem num_is {l : List UInt8} {u s : Nat} (h : num l = .inr (u, s)) : l = vb u ++ l.drop s ∧ wd u = s ∧ u < 18446744073709551616 ∧ 0 < s := by
  obtain ⟨v, e1, e2, e3, e4, e5, _⟩ := vb_rd l 0 0 u s (by omega) h
  simp at e1
  subst e1
  exact ⟨e2, by unfold wd vb; simpa using e3, by simpa using e5, e4⟩
end Go.Proofs.Ytndfhnaafaijcaa.Pk

/- BYTES IN MEMORY: slices, pieces of them, blocks of one's own, make, copy, append, string. -/
namespace Go.Proofs.Ytndfhnaafaijcaa.By
open Go.RowKit
open Mem

/-- a byte as a value -/
def bv (b : UInt8) : Value := .int .u8 (b.toNat : Int)
/-- bytes lie at an address -/
def Seg (w : World) (ao : Option Addr) (bs : List UInt8) : Prop := bs = [] ∨ ∃ b off, ao = some ⟨b, off, none⟩ ∧ ∀ (k : Nat) (hk : k < bs.length), w.cell? ⟨b, off + k, none⟩ = some (bv bs[k])
theorem Seg.below {w v : World} {ao : Option Addr} {rs : List UInt8} (h : Seg w ao rs) (k : Below w.heap.size w v) : Seg v ao rs := by
  rcases h with h | ⟨b, off, e, h⟩
  · exact .inl h
  · exact .inr ⟨b, off, e, fun i hi => by rw [(bcell k).1 _ _ (cell_lt (h i hi))]; exact h i hi⟩
/-- a slice of bytes, as a contract takes it -/
structure Ls (w : World) (ao : Option Addr) (n cap : Nat) (rs : List UInt8) : Prop where
  len : n = rs.length
  fits : n ≤ cap
  reach : cap ≤ 9223372036854775807
  nil : ao = none → cap = 0
  seg : Seg w ao rs
theorem Ls.below {w v : World} {ao : Option Addr} {n cap : Nat} {rs : List UInt8} (h : Ls w ao n cap rs) (k : Below w.heap.size w v) : Ls v ao n cap rs := ⟨h.len, h.fits, h.reach, h.nil, h.seg.below k⟩
theorem Ls.at {w : World} {ao : Option Addr} {n cap : Nat} {rs : List UInt8} (h : Ls w ao n cap rs) (hn : 0 < n) : ∃ b off, ao = some ⟨b, off, none⟩ := by
  rcases h.seg with e | ⟨b, off, e, _⟩
  · have := h.len
    rw [e] at this
    simp at this
    omega
  · exact ⟨b, off, e⟩
theorem Ls.row {w : World} {b off n cap : Nat} {rs : List UInt8} (h : Ls w (some ⟨b, off, none⟩) n cap rs) (k : Nat) (hk : k < rs.length) : w.cell? ⟨b, off + k, none⟩ = some (bv rs[k]) := by
  rcases h.seg with e | ⟨b', off', e, hs⟩
  · subst e
    simp at hk
  · cases e
    exact hs k hk
theorem ls_nil (w : World) : Ls w none 0 0 [] := ⟨rfl, Nat.le_refl _, by omega, fun _ => rfl, .inl rfl⟩
theorem und : Try.prog.underlying 38 = some (.slice (Try.prog.elem 38)) := by kernel_rfl
theorem size (u : World) : (sizeOf (Try.prog.elem 38)).run Try.prog u = .ok 1 u := by
  have h : (Try.prog.info? (Try.prog.elem 38)).map (·.size) = some 1 := by kernel_rfl
  obtain ⟨i, hi, hs⟩ := Option.map_eq_some_iff.1 h
  simp [sizeOf, typeInfo, hi, hs]
theorem Ls.to {w : World} {ao : Option Addr} {n cap : Nat} {rs : List UInt8} (h : Ls w ao n cap rs) (k : Nat) (hk : k ≤ n) :
    (∀ u, (Instr.slice 38 (.slice ao n cap) none (some (.int .i64 (k : Int))) none).run Try.prog u = .ok (.slice ao k cap) u) ∧ Ls w ao k cap (rs.take k) := by
  have hl := h.len
  have hf := h.fits
  refine ⟨fun u => ?_, ⟨by rw [List.length_take]; omega, by omega, h.reach, h.nil, ?_⟩⟩
  · rw [run_slice_h u 38 ao n cap und .i64 k (by omega) (by omega), size]
    have e : Option.map (fun x : Addr => x.add 0) ao = ao := by cases ao <;> simp [Addr.add]
    simp [Result.andThen, sliced, e]
  · rcases h.seg with e | ⟨b, off, e, hc⟩
    · exact .inl (by rw [e]; simp)
    · refine .inr ⟨b, off, e, fun j hj => ?_⟩
      rw [List.length_take] at hj
      rw [List.getElem_take]
      exact hc j (by omega)
theorem Ls.from {w : World} {ao : Option Addr} {n cap : Nat} {rs : List UInt8} (h : Ls w ao n cap rs) (k : Nat) (hk : k ≤ n) :
    ∃ ao2 cap2, (∀ u, (Instr.slice 38 (.slice ao n cap) (some (.int .i64 (k : Int))) none none).run Try.prog u = .ok (.slice ao2 (n - k) cap2) u) ∧ Ls w ao2 (n - k) cap2 (rs.drop k) ∧ (k < n → ∀ b off, ao = some ⟨b, off, none⟩ → ao2 = some ⟨b, off + k, none⟩) := by
  have hl := h.len
  have hf := h.fits
  refine ⟨if cap = k then ao else ao.map (·.add k), cap - k, fun u => ?_, ⟨by rw [List.length_drop]; omega, by omega, by have := h.reach; omega, ?_, ?_⟩, fun hkn b off e => by rw [if_neg (by omega), e]; simp only [Option.map_some, Go.WideShapes.add_plain]⟩
  · rw [run_slice_l u 38 ao n cap und .i64 k (by omega) (by omega), size]
    simp [Result.andThen, sliced]
  · by_cases e : cap = k
    · omega
    · rw [if_neg e]
      cases ao with
      | none => have := h.nil rfl; omega
      | some a => exact fun k => by cases k
  · by_cases hkn : k = n
    · exact .inl (List.drop_eq_nil_of_le (by omega))
    · rcases h.seg with e | ⟨b, off, rfl, hc⟩
      · exact .inl (by rw [e]; simp)
      · refine .inr ⟨b, off + k, ?_, fun j hj => ?_⟩
        · rw [if_neg (by omega)]
          simp only [Option.map_some, Go.WideShapes.add_plain]
        · rw [List.length_drop] at hj
          rw [List.getElem_drop, Nat.add_assoc]
          exact hc (k + j) (by omega)
theorem Ls.mid {w : World} {ao : Option Addr} {n cap : Nat} {rs : List UInt8} (h : Ls w ao n cap rs) (k m : Nat) (hkm : k ≤ m) (hm : m ≤ n) :
    ∃ ao2 cap2, (∀ u, (Instr.slice 38 (.slice ao n cap) (some (.int .i64 (k : Int))) (some (.int .i64 (m : Int))) none).run Try.prog u = .ok (.slice ao2 (m - k) cap2) u) ∧ Ls w ao2 (m - k) cap2 ((rs.take m).drop k) := by
  have hl := h.len
  have hf := h.fits
  refine ⟨if cap = k then ao else ao.map (·.add k), cap - k, fun u => ?_, ⟨by rw [List.length_drop, List.length_take]; omega, by omega, by have := h.reach; omega, ?_, ?_⟩⟩
  · rw [run_slice_lh u 38 ao n cap und .i64 .i64 k m (by omega) (by omega) (by omega), size]
    simp [Result.andThen, sliced]
  · by_cases e : cap = k
    · omega
    · rw [if_neg e]
      cases ao with
      | none => have := h.nil rfl; omega
      | some a => exact fun k => by cases k
  · by_cases hkn : k = m
    · exact .inl (List.drop_eq_nil_of_le (by rw [List.length_take]; omega))
    · rcases h.seg with e | ⟨b, off, rfl, hc⟩
      · exact .inl (by rw [e]; simp)
      · refine .inr ⟨b, off + k, ?_, fun j hj => ?_⟩
        · rw [if_neg (by omega)]
          simp only [Option.map_some, Go.WideShapes.add_plain]
        · rw [List.length_drop, List.length_take] at hj
          rw [List.getElem_drop, List.getElem_take, Nat.add_assoc]
          exact hc (k + j) (by omega)
theorem one_cell (rs : List UInt8) : ∀ v ∈ rs.map bv, v.oneCell' = true := by
  intro v hv
  obtain ⟨r, _, rfl⟩ := List.mem_map.1 hv
  rfl
theorem news_of {w : World} {b off : Nat} {rs : List UInt8} (h : ∀ (k : Nat) (hk : k < rs.length), w.cell? ⟨b, off + k, none⟩ = some (bv rs[k])) (j : Nat) (u : Value) (hu : (rs.map bv)[j]? = some u) : w.cell? ((⟨b, off, none⟩ : Addr).add j) = some u := by
  obtain ⟨hj, e⟩ := List.getElem?_eq_some_iff.1 hu
  rw [List.length_map] at hj
  rw [List.getElem_map] at e
  rw [Go.WideShapes.add_plain, h j hj, e]
/-- a whole block of bytes, none of it frozen -/
def Block (w : World) (g : Nat) (bs : List UInt8) : Prop := w.heap[g]? = some (.cells (bs.map bv).toArray 5 (0, 0))
theorem Block.lt {w : World} {g : Nat} {bs : List UInt8} (h : Block w g bs) : g < w.heap.size := by
  obtain ⟨hg, _⟩ := Array.getElem?_eq_some_iff.1 h
  exact hg
theorem Block.below {w u : World} {g : Nat} {bs : List UInt8} (h : Block w g bs) (k : Below w.heap.size w u) : Block u g bs := (k.block g h.lt).trans h
theorem Block.row {w : World} {g : Nat} {bs : List UInt8} (h : Block w g bs) (k : Nat) (hk : k < bs.length) : w.cell? ⟨g, k, none⟩ = some (bv bs[k]) := by
  rw [cell_of_row w g _ _ _ _ h]
  simp [hk]
theorem Block.frozen {w : World} {g : Nat} {bs : List UInt8} (h : Block w g bs) (k : Nat) : w.frozen? ⟨g, k, none⟩ = false := frozen_of_row w g k _ _ h
theorem Block.ls {w : World} {g : Nat} {bs : List UInt8} (h : Block w g bs) (hm : bs.length ≤ 9223372036854775807) : Ls w (some ⟨g, 0, none⟩) bs.length bs.length bs :=
  ⟨rfl, Nat.le_refl _, hm, (fun k => by cases k), .inr ⟨g, 0, rfl, fun k hk => by rw [Nat.zero_add]; exact h.row k hk⟩⟩
theorem Block.store {w : World} {g : Nat} {bs : List UInt8} (h : Block w g bs) (k : Nat) (v : UInt8) : Block (w.setCell ⟨g, k, none⟩ (bv v)) g (bs.set k v) := by
  have h1 := heap_setCell_same _ g k _ _ (bv v) h
  unfold Block
  rw [h1]
  simp only [List.setIfInBounds_toArray, List.map_set]
def zeros (n : Nat) : Array Value := ((List.replicate n (0 : UInt8)).map bv).toArray
theorem info : (Try.prog.info? 5).map (fun i => (i.zero, i.size, i.bytes)) = some (some (.int .u8 0), 1, 1) := by kernel_rfl
theorem made (n : Nat) : madeCells (Value.int .u8 0).cells (n * 1) = zeros n := by
  apply Array.ext_getElem?
  intro j
  rw [Nat.mul_one]
  by_cases hj : j < n
  · unfold madeCells zeros
    rw [Array.getElem?_map, Array.getElem?_range, if_pos hj, List.getElem?_toArray, List.getElem?_map, List.getElem?_replicate, if_pos hj]
    simp only [Option.map_some]
    rw [show (Value.int .u8 0).cells.size = 1 from rfl, Nat.mod_one]
    rfl
  · rw [Array.getElem?_eq_none (by rw [size_madeCells]; omega), Array.getElem?_eq_none]
    unfold zeros
    rw [List.size_toArray, List.length_map, List.length_replicate]
    omega
theorem make (n : Nat) (hn : n ≤ 140737488355328) (u : World) : (Instr.makeSlice 38 (.int .i64 (n : Int)) (.int .i64 (n : Int))).run Try.prog u =
    .ok (.slice (some ⟨u.heap.size, 0, none⟩) n n) (u.alloc (.cells (zeros n) 5)) := by
  obtain ⟨i0, hi, hz0, hz1, hz2⟩ := info_parts info
  have h := run_make (P := Try.prog) u 38 5 i0 (.int .u8 0) Try.underlying38 hi hz0 .i64 .i64 (n : Int) (n : Int) (by omega) (Int.le_refl _) (by rw [hz2]; omega) (by omega)
  rw [hz1, Int.toNat_natCast, made] at h
  exact h
theorem block_made (u : World) (n : Nat) : Block (u.alloc (.cells (zeros n) 5)) u.heap.size (List.replicate n 0) := heap_alloc_new u _
theorem sizeZ : (Try.prog.info? 5).map (·.size) = some 1 := by kernel_rfl
/-- copy(dst[o:], src): into a block of one's own, behind what stands there already -/
theorem copy (u : World) (g o : Nat) (hd ts : List UInt8) (dCap : Nat) (ao : Option Addr) (n cap : Nat) (rs : List UInt8) (hb : Block u g (hd ++ List.replicate n 0 ++ ts)) (ho : o = hd.length) (hn : n = rs.length) (hs : Seg u ao rs) (da : Option Addr) (hda : 0 < n → da = some ⟨g, o, none⟩) :
    ∃ u', (Builtin.copy_ #[38, 38] 3 #[.slice da (n + ts.length) dCap, .slice ao n cap]).run Try.prog u = .ok (goInt n) u' ∧ Block u' g (hd ++ rs ++ ts) ∧ (∀ B w0, Below B w0 u → B ≤ g → Below B w0 u') ∧ u'.heap.size = u.heap.size := by
  obtain ⟨i0, hi, hiK⟩ := Option.map_eq_some_iff.1 sizeZ
  have hmin : Nat.min n (n + ts.length) = n := Nat.min_eq_left (by omega)
  by_cases h0 : n = 0
  · subst h0
    have e : rs = [] := List.length_eq_zero_iff.1 hn.symm
    subst e
    refine ⟨u, ?_, by simpa using hb, fun _ _ h _ => h, rfl⟩
    have hl : ∀ (x : Addr), (loadCells x 0).run Try.prog u = .ok #[] u := fun x => by simpa using run_loadCells_list (P := Try.prog) u x [] (by simp)
    cases ao <;> cases da <;> simp [Builtin.copy_, run_underlying Try.underlying38, Builtin.lenOf, Builtin.firstCells, sizeOf, typeInfo, hi, storeCells, hl]
  · obtain rfl := hda (by omega)
    rcases hs with e | ⟨b, off, rfl, hc⟩
    · rw [e] at hn
      exact absurd hn h0
    · have hl := run_loadCells_list (P := Try.prog) u ⟨b, off, none⟩ (rs.map bv) (fun j v hv => news_of hc j v hv)
      have hst := run_storeCells_at Try.prog g o 5 (rs.map bv) 0 _ u hb (by
        simp
        omega) (one_cell rs)
      have e : (((hd ++ List.replicate n (0 : UInt8) ++ ts).map bv).toArray.toList.take (o + 0) ++ rs.map bv ++ ((hd ++ List.replicate n (0 : UInt8) ++ ts).map bv).toArray.toList.drop (o + 0 + (rs.map bv).length)) = (hd ++ rs ++ ts).map bv := by
        rw [List.toList_toArray, Nat.add_zero, List.length_map, ← hn, ho]
        simp only [List.map_append, List.append_assoc]
        have e2 : (hd.map bv ++ ((List.replicate n (0 : UInt8)).map bv ++ ts.map bv)).drop (hd.length + n) = ts.map bv := by
          rw [← List.append_assoc]
          exact List.drop_left' (by simp)
        rw [List.take_left' (by simp), e2]
      rw [e] at hst
      refine ⟨u.setRow g ((hd ++ rs ++ ts).map bv).toArray, ?_, setRow_heap u g _ _ 5 _ hb, fun B w0 h hB => below_setRow h hB _, by simp [World.setRow]⟩
      rw [List.length_map, ← hn] at hl
      simp [Builtin.copy_, run_underlying Try.underlying38, Builtin.lenOf, Builtin.firstCells, sizeOf, typeInfo, hi, hiK, hmin, hl, hst]
end Go.Proofs.Ytndfhnaafaijcaa.By

/- CONTRACTS OF PACKAGE pack: folded, width, Num, Text. -/
namespace Go.Proofs.Ytndfhnaafaijcaa
open Go.RowKit
open Mem Pk

theorem zz_lib (n : Int) : zz n = Lib.zigzag n := by
  unfold zz Lib.zigzag
  split <;> split <;> omega
theorem pack_folded (n : Int) (hn : Fit n) (w : World) : Calls Try.prog 58 #[.int .i64 n] w fun e w' => e = .returned (.int .u64 (zz n : Int)) ∧ w' = w := by
  unfold Fit at hn
  by_cases h : n < 0
  · have hz := Lib.zigzag_neg hn.1 h
    rw [← zz_lib] at hz
    have hm : ¬ IntKind.u64.signed = true := by decide
    go_enter Try.func58, Try.ntmps58
    go_wp2
    go_ret
    exact ⟨rfl, rfl⟩
  · have hz : (zz n : Int) = n * 2 := by
      unfold zz
      rw [if_neg h]
      omega
    rw [hz]
    go_enter Try.func58, Try.ntmps58
    go_wp2
    go_ret
    exact ⟨rfl, rfl⟩
theorem vbF_len_low {f u : Nat} (h : u < 128) : (vbF (f + 1) u).length = 1 := by rw [vbF_low h]; rfl
theorem vbF_len_high {f u : Nat} (h : ¬ u < 128) : (vbF (f + 1) u).length = 1 + (vbF f (u / 128)).length := by rw [vbF_high h, List.length_cons]; omega
theorem pack_width (u : Nat) (hu : u < 18446744073709551616) (w : World) : Calls Try.prog 59 #[.int .u64 (u : Int)] w fun e w' => e = .returned (.int .i64 (wd u : Int)) ∧ w' = w := by
  have HU := Lib.hid hu
  clear hu
  go_enter Try.func59, Try.ntmps59
  go_wp2
  go_loop [0, 3] (fun x k => ∃ (c v : Nat), x = .int .u64 (v : Int) ∧ k = .int .i64 (c : Int) ∧ c ≤ 10 ∧ 1 ≤ c ∧ v < 18446744073709551616 ∧ Hid (v < lim c) ∧ Hid (c + (vbF (11 - c) v).length = wd u + 1)) (fun _ k => (10 - intOf k).toNat)
  case atStart => exact ⟨1, u, rfl, rfl, by omega, by omega, HU.out, Lib.hid (by rw [lim_one]; exact HU.out), Lib.hid (by unfold wd vb; simp; omega)⟩
  case round =>
    obtain ⟨c, v, rfl, rfl, hc, hc1, hv, HV, HL⟩ := hrel
    have HVn := Lib.hid hv
    clear hv
    by_cases hlt : v < 128
    · have HE : Hid ((c : Int) = (wd u : Int)) := Lib.hid (by
        have h := HL.out
        rw [show 11 - c = (10 - c) + 1 by omega, vbF_len_low hlt] at h
        omega)
      have a1 : ¬ (128 : Int) ≤ (v : Int) := by omega
      go_wp2
      go_ret
      exact ⟨ret_int HE.out, rfl⟩
    · have hi9 : c < 10 := by
        by_cases h9 : c < 10
        · exact h9
        · obtain rfl : c = 10 := by omega
          have := HV.out
          rw [lim_ten] at this
          omega
      have HV2 : Hid (v / 128 < lim (c + 1)) := Lib.hid (by
        have := HV.out
        rw [lim_step hi9] at this
        omega)
      have HL2 : Hid (c + 1 + (vbF (11 - (c + 1)) (v / 128)).length = wd u + 1) := Lib.hid (by
        have h := HL.out
        rw [show 11 - c = (11 - (c + 1)) + 1 by omega, vbF_len_high hlt] at h
        omega)
      have a1 : (128 : Int) ≤ (v : Int) := by omega
      go_wp2
      go_round
      case rel => exact ⟨c + 1, v / 128, by simp, by go_num, by omega, by omega, (by have := HVn.out; omega), HV2, HL2⟩
      case measure => simp [intOf]; omega
theorem and127 (v : Nat) (hv : v < 18446744073709551616) : bits .and .u64 (v : Int) 127 = ((v % 128 : Nat) : Int) := by
  have h := u64_and_nat v 127 hv (by omega)
  have e : v &&& 127 = v % 128 := Nat.and_two_pow_sub_one_eq_mod v 7
  rw [e] at h
  exact h
theorem set_at {bs pre : List UInt8} {L m i : Nat} {x : UInt8} (hm : m = bs.length) (hi : pre.length = i) : (bs ++ pre ++ List.replicate (L + 1) 0).set (m + i) x = bs ++ (pre ++ [x]) ++ List.replicate L 0 := by
  rw [List.set_append_right _ _ (by rw [List.length_append]; omega), List.length_append, ← hm, hi, Nat.sub_self, List.replicate_succ, List.set_cons_zero]
  simp
set_option maxHeartbeats 2000000 in
theorem pack_num (bs : List UInt8) (n : Int) (hn : Fit n) (ao : Option Addr) (m cap : Nat) (w : World) (hL : By.Ls w ao m cap bs) (hm : m ≤ 1000000000000) :
    Calls Try.prog 49 #[.slice ao m cap, .int .i64 n] w fun e w' => (∃ g, e = .returned (.slice (some ⟨g, 0, none⟩) (m + wd (zz n)) (m + wd (zz n))) ∧ w.heap.size ≤ g ∧ By.Block w' g (bs ++ vb (zz n))) ∧ Below w.heap.size w w' := by
  have HF := Lib.hid hn
  have HL := Lib.hid hL
  have HLen := Lib.hid hL.len
  obtain ⟨u, hu⟩ : ∃ u, zz n = u := ⟨_, rfl⟩
  have hul : u < 18446744073709551616 := hu ▸ zz_lt hn
  have HU := Lib.hid hu
  obtain ⟨d, hd⟩ : ∃ d, wd u = d := ⟨_, rfl⟩
  have hd10 : d ≤ 10 := by rw [← hd]; exact vbF_len 10 u
  have hd1 : 1 ≤ d := by rw [← hd]; exact vbF_pos
  have HD := Lib.hid hd
  have hmk := By.make (m + d) (by omega)
  rw [show ((m + d : Nat) : Int) = (m : Int) + (d : Int) from by omega] at hmk
  have hb0 := By.block_made w (m + d)
  rw [← List.replicate_append_replicate] at hb0
  have hB1 := (Below.refl w.heap.size w).alloc (Nat.le_refl _) (.cells (By.zeros (m + d)) 5)
  obtain ⟨W1, hcp, hblk, hbel, hsz⟩ := By.copy (w.alloc (.cells (By.zeros (m + d)) 5)) w.heap.size 0 [] (List.replicate d 0) (m + d) ao m cap bs (by simpa using hb0) rfl hL.len (hL.below hB1).seg (some ⟨w.heap.size, 0, none⟩) (fun _ => rfl)
  rw [List.length_replicate] at hcp
  rw [List.nil_append] at hblk
  have HB1 := Lib.hid (hbel _ _ hB1 (Nat.le_refl _))
  have HBk := Lib.hid hblk
  have hcap := hL.reach
  have HUl := Lib.hid hul
  rw [hu, hd]
  clear hL hn hu hd hb0 hblk hbel hsz hB1 hul
  go_enter Try.func49, Try.ntmps49
  go_wp2_with fail
  refine (pack_folded n HF.out w).mono ?_
  rintro e w2 ⟨rfl, rfl⟩
  rename World => w
  rw [HU.out]
  go_wp2_with fail
  refine (pack_width u HUl.out w).mono ?_
  rintro e w3 ⟨rfl, rfl⟩
  rename World => w
  rw [HD.out]
  go_wp2_with fail
  clear hmk hcp
  go_loopw [5, 7] (fun x k wr => ∃ (i v L : Nat) (pre : List UInt8), x = .int .u64 (v : Int) ∧ k = .int .i64 ((m : Int) + (i : Int)) ∧ i + L + 1 = d ∧ Hid (v < 18446744073709551616 ∧ v < lim (i + 1)) ∧ Hid (pre.length = i) ∧ Hid (vb u = pre ++ vbF (10 - i) v) ∧ Hid ((vbF (10 - i) v).length = L + 1) ∧ Hid (By.Block wr w.heap.size (bs ++ pre ++ List.replicate (L + 1) 0)) ∧ Hid (Below w.heap.size w wr)) (fun _ k _ => m + d - (intOf k).toNat)
  case atStart => exact ⟨0, u, d - 1, [], rfl, by go_num, by omega, Lib.hid ⟨HUl.out, by rw [lim_one]; exact HUl.out⟩, Lib.hid rfl, Lib.hid rfl, Lib.hid (by have h := HD.out; unfold wd vb at h; rw [Nat.sub_zero, h]; omega), Lib.hid (by rw [List.append_nil, show d - 1 + 1 = d by omega]; exact HBk.out), HB1⟩
  case round =>
    obtain ⟨i, v, L, pre, rfl, rfl, hil, HV, HPl, HVb, HLn, HBl, HB⟩ := hrel
    have hlen9 : m + i < (bs ++ pre ++ List.replicate (L + 1) (0 : UInt8)).length := by
      rw [List.length_append, List.length_append, List.length_replicate, ← HLen.out, HPl.out]
      omega
    have hc := HBl.out.row (m + i) hlen9
    have hf := HBl.out.frozen (m + i)
    obtain ⟨z, hz⟩ : ∃ z, By.bv (bs ++ pre ++ List.replicate (L + 1) (0 : UInt8))[m + i] = z := ⟨_, rfl⟩
    rw [hz] at hc
    clear hz hlen9
    by_cases hL0 : L = 0
    · subst hL0
      have HS : Hid (v < 128) := Lib.hid (by
        by_cases hs : v < 128
        · exact hs
        · have h := HLn.out
          rw [show 10 - i = (9 - i) + 1 by omega, vbF_len_high hs] at h
          by_cases h9 : i = 9
          · have := HV.out.2
            rw [h9, lim_ten] at this
            omega
          · have := vbF_pos (f := 8 - i) (u := v / 128)
            rw [show 8 - i + 1 = 9 - i by omega] at this
            omega)
      have HW8 : Hid (IntKind.u8.wrap (v : Int) = (v : Int)) := Lib.hid (by
        rw [IntKind.wrap_u8]
        have := HS.out
        omega)
      have hw8 := HW8.out
      have hdi : (m : Int) + (d : Int) - 1 = (m : Int) + (i : Int) := by omega
      have a1 : ¬ (m : Int) + (i : Int) < (m : Int) + (d : Int) - 1 := by omega
      go_wp2_with fail
      go_ret
      refine ⟨⟨w.heap.size, rfl, Nat.le_refl _, ?_⟩, HB.out.setCell (p := ⟨w.heap.size, m + i, none⟩) (Nat.le_refl _) _⟩
      have h := HBl.out.store (m + i) (UInt8.ofNat v)
      rw [set_at HLen.out HPl.out] at h
      have e1 : By.bv (UInt8.ofNat v) = .int .u8 (v : Int) := by
        unfold By.bv
        rw [byte_nat (by have := HS.out; omega)]
      rw [e1] at h
      have e2 : vb u = pre ++ [UInt8.ofNat v] := by
        rw [HVb.out, show 10 - i = (9 - i) + 1 by omega, vbF_low HS.out]
      rw [e2]
      simpa using h
    · have HS : Hid (¬ v < 128) := Lib.hid (fun hs => by
        have h := HLn.out
        rw [show 10 - i = (9 - i) + 1 by omega, vbF_len_low hs] at h
        omega)
      obtain ⟨r, hr⟩ : ∃ r, v % 128 = r := ⟨_, rfl⟩
      obtain ⟨q, hq⟩ : ∃ q, v / 128 = q := ⟨_, rfl⟩
      have hr128 : r < 128 := by omega
      have hand := and127 v HV.out.1
      rw [hr] at hand
      have hw8 : IntKind.u8.wrap (r : Int) = (r : Int) := by
        rw [IntKind.wrap_u8]
        omega
      have hor : bits .or .u8 (r : Int) 128 = (r : Int) + 128 := u8_or128_right _ (by omega) (by omega)
      have hdiv : (v : Int) / 128 = (q : Int) := by omega
      have HR := Lib.hid hr
      have HQ := Lib.hid hq
      obtain ⟨K, rfl⟩ : ∃ K, L = K + 1 := ⟨L - 1, by omega⟩
      have HV2 : Hid (q < 18446744073709551616 ∧ q < lim (i + 1 + 1)) := Lib.hid (by
        have h1 := HV.out.1
        have h2 := HV.out.2
        rw [lim_step (by omega)] at h2
        omega)
      have HVb2 : Hid (vb u = (pre ++ [UInt8.ofNat (r + 128)]) ++ vbF (10 - (i + 1)) q) := Lib.hid (by
        rw [HVb.out, show 10 - i = (10 - (i + 1)) + 1 by omega, vbF_high HS.out, HR.out, HQ.out, List.append_assoc]
        rfl)
      have HLn2 : Hid ((vbF (10 - (i + 1)) q).length = K + 1) := Lib.hid (by
        have h := HLn.out
        rw [show 10 - i = (10 - (i + 1)) + 1 by omega, vbF_len_high HS.out, HQ.out] at h
        omega)
      have a1 : (m : Int) + (i : Int) < (m : Int) + (d : Int) - 1 := by omega
      clear hr hq
      go_wp2_with fail
      go_roundw
      case rel =>
        refine ⟨i + 1, q, K, pre ++ [UInt8.ofNat (r + 128)], rfl, by go_num, by omega, HV2, Lib.hid (by rw [List.length_append, HPl.out]; rfl), HVb2, HLn2, Lib.hid ?_, Lib.hid (HB.out.setCell (p := ⟨w.heap.size, m + i, none⟩) (Nat.le_refl _) _)⟩
        have h := HBl.out.store (m + i) (UInt8.ofNat (r + 128))
        rw [set_at HLen.out HPl.out] at h
        have e1 : By.bv (UInt8.ofNat (r + 128)) = .int .u8 ((r : Int) + 128) := by
          unfold By.bv
          rw [byte_nat (by omega)]
          simp
        rw [e1] at h
        exact h
      case measure => simp [intOf]; omega
end Go.Proofs.Ytndfhnaafaijcaa

/- CONTRACTS OF PACKAGE pack: Text. -/
namespace Go.Proofs.Ytndfhnaafaijcaa
open Go.RowKit
open Mem Pk

/-- copy(dst[o:], text): into a block of one's own, behind what stands there already -/
theorem By.copyS (u : World) (g o : Nat) (hd ts : List UInt8) (dCap : Nat) (s : ByteArray) (n : Nat) (hb : By.Block u g (hd ++ List.replicate n 0 ++ ts)) (ho : o = hd.length) (hn : n = s.size) (da : Option Addr) (hda : 0 < n → da = some ⟨g, o, none⟩) :
    ∃ u', (Builtin.copy_ #[38, 9] 3 #[.slice da (n + ts.length) dCap, .string s]).run Try.prog u = .ok (goInt n) u' ∧ By.Block u' g (hd ++ txt s ++ ts) ∧ (∀ B w0, Below B w0 u → B ≤ g → Below B w0 u') ∧ u'.heap.size = u.heap.size := by
  obtain ⟨i0, hi, hiK⟩ := Option.map_eq_some_iff.1 By.sizeZ
  have hmin : Nat.min n (n + ts.length) = n := Nat.min_eq_left (by omega)
  have hcells : List.take n (List.map (fun b : UInt8 => Value.int .u8 (b.toNat : Int)) s.data.toList) = (txt s).map By.bv := by
    rw [List.take_of_length_le (by rw [List.length_map]; show (txt s).length ≤ n; rw [txt_len]; omega)]
    rfl
  by_cases h0 : n = 0
  · subst h0
    have e : txt s = [] := List.length_eq_zero_iff.1 (by rw [txt_len]; exact hn.symm)
    refine ⟨u, ?_, by rw [e]; simpa using hb, fun _ _ h _ => h, rfl⟩
    cases da <;> simp [Builtin.copy_, run_underlying Try.underlying38, Builtin.lenOf, Builtin.firstCells, sizeOf, typeInfo, hi, storeCells, ← hn]
  · obtain rfl := hda (by omega)
    have hst := run_storeCells_at Try.prog g o 5 ((txt s).map By.bv) 0 _ u hb (by
      simp [txt_len]
      omega) (By.one_cell (txt s))
    have e : (((hd ++ List.replicate n (0 : UInt8) ++ ts).map By.bv).toArray.toList.take (o + 0) ++ (txt s).map By.bv ++ ((hd ++ List.replicate n (0 : UInt8) ++ ts).map By.bv).toArray.toList.drop (o + 0 + ((txt s).map By.bv).length)) = (hd ++ txt s ++ ts).map By.bv := by
      rw [List.toList_toArray, Nat.add_zero, List.length_map, txt_len, ← hn, ho]
      simp only [List.map_append, List.append_assoc]
      have e2 : (hd.map By.bv ++ ((List.replicate n (0 : UInt8)).map By.bv ++ ts.map By.bv)).drop (hd.length + n) = ts.map By.bv := by
        rw [← List.append_assoc]
        exact List.drop_left' (by simp)
      rw [List.take_left' (by simp), e2]
    rw [e] at hst
    refine ⟨u.setRow g ((hd ++ txt s ++ ts).map By.bv).toArray, ?_, setRow_heap u g _ _ 5 _ hb, fun B w0 h hB => below_setRow h hB _, by simp [World.setRow]⟩
    obtain ⟨R, hR⟩ : ∃ R, ((hd ++ txt s ++ ts).map By.bv).toArray = R := ⟨_, rfl⟩
    rw [hR] at hst ⊢
    simp [Builtin.copy_, run_underlying Try.underlying38, Builtin.lenOf, Builtin.firstCells, sizeOf, typeInfo, hi, hmin, ← hn, hcells, hst]
set_option maxHeartbeats 2000000 in
theorem pack_text (bs : List UInt8) (s : ByteArray) (hs : s.size ≤ 1000000000000) (ao : Option Addr) (m cap : Nat) (w : World) (hL : By.Ls w ao m cap bs) (hm : m ≤ 1000000000000) :
    Calls Try.prog 60 #[.slice ao m cap, .string s] w fun e w' => (∃ g N, e = .returned (.slice (some ⟨g, 0, none⟩) N N) ∧ N = (bs ++ vb (zz s.size) ++ txt s).length ∧ w.heap.size ≤ g ∧ By.Block w' g (bs ++ vb (zz s.size) ++ txt s)) ∧ Below w.heap.size w w' := by
  have HL := Lib.hid hL
  have HLen := Lib.hid hL.len
  have hcap := hL.reach
  obtain ⟨z, hz⟩ : ∃ z, s.size = z := ⟨_, rfl⟩
  have HZ := Lib.hid hz
  rw [hz] at hs
  clear hL
  go_enter Try.func60, Try.ntmps60
  go_wp2_with fail
  refine (pack_num bs (z : Int) ⟨by omega, by omega⟩ ao m cap w HL.out hm).mono ?_
  rintro e w1 ⟨⟨g, rfl, hg, hblk⟩, b1⟩
  obtain ⟨d, hd⟩ : ∃ d, wd (zz (z : Int)) = d := ⟨_, rfl⟩
  have hd10 : d ≤ 10 := by rw [← hd]; exact vbF_len 10 _
  have HD := Lib.hid hd
  rw [hd]
  have HHl : Hid ((bs ++ vb (zz (z : Int))).length = m + d) := Lib.hid (by
    rw [List.length_append, ← HLen.out, ← hd]
    rfl)
  have HBk := Lib.hid hblk
  have HB1 := Lib.hid b1
  have hs1 := b1.size
  clear hd hblk b1
  obtain ⟨h, hh⟩ : ∃ h, m + d = h := ⟨_, rfl⟩
  rw [hh]
  have hhb : h ≤ 1000000000010 := by omega
  rw [hh] at HHl
  clear hh
  have hmk := By.make (h + z) (by omega)
  rw [show ((h + z : Nat) : Int) = (h : Int) + (z : Int) from by omega] at hmk
  have hb0 := By.block_made w1 (h + z)
  rw [← List.replicate_append_replicate] at hb0
  have hB2 := (Below.refl w1.heap.size w1).alloc (Nat.le_refl _) (.cells (By.zeros (h + z)) 5)
  have hl1 : By.Ls w1 (some ⟨g, 0, none⟩) h h (bs ++ vb (zz (z : Int))) := by
    have := HBk.out.ls (by rw [HHl.out]; omega)
    rw [HHl.out] at this
    exact this
  obtain ⟨W2, hcp, hblk2, hbel2, hsz2⟩ := By.copy (w1.alloc (.cells (By.zeros (h + z)) 5)) w1.heap.size 0 [] (List.replicate z 0) (h + z) (some ⟨g, 0, none⟩) h h (bs ++ vb (zz (z : Int))) (by simpa using hb0) rfl HHl.out.symm (hl1.below hB2).seg (some ⟨w1.heap.size, 0, none⟩) (fun _ => rfl)
  rw [List.length_replicate] at hcp
  rw [List.nil_append] at hblk2
  have hbw2 := hbel2 _ _ hB2 (Nat.le_refl _)
  have hlo : By.Ls W2 (some ⟨w1.heap.size, 0, none⟩) (h + z) (h + z) (bs ++ vb (zz (z : Int)) ++ List.replicate z 0) := by
    have := hblk2.ls (by rw [List.length_append, HHl.out, List.length_replicate]; omega)
    rw [List.length_append, HHl.out, List.length_replicate] at this
    exact this
  obtain ⟨ao2, cap2, hsl, _, had⟩ := hlo.from h (by omega)
  rw [show h + z - h = z by omega] at hsl
  obtain ⟨W3, hcp3, hblk3, hbel3, hsz3⟩ := By.copyS W2 w1.heap.size h (bs ++ vb (zz (z : Int))) [] cap2 s z (by simpa using hblk2) HHl.out.symm HZ.out.symm ao2 (fun hp => by
    have := had (by omega) _ _ rfl
    rw [Nat.zero_add] at this
    exact this)
  rw [List.length_nil, Nat.add_zero] at hcp3
  rw [List.append_nil] at hblk3
  have HB3 := Lib.hid (hbel3 _ _ (bchain HB1.out hbw2) hs1)
  have HBk3 := Lib.hid hblk3
  clear hblk3 hbel3 hsz3 hblk2 hbel2 hsz2 hb0 hB2 hl1 hlo had hbw2
  go_wp2_with fail
  go_ret
  refine ⟨⟨w1.heap.size, h + z, rfl, ?_, hs1, ?_⟩, HB3.out⟩
  · rw [List.length_append, txt_len, HZ.out, HHl.out]
  · rw [HZ.out]
    exact HBk3.out
end Go.Proofs.Ytndfhnaafaijcaa

/- BYTES OF THE CALL's OWN: append(own, bytes...), append(own, text...). -/
namespace Go.Proofs.Ytndfhnaafaijcaa.By
open Go.RowKit
open Mem

/-- bytes of the call's own -/
def Own (w : World) (B : Nat) (v : Value) (xs : List UInt8) : Prop := w.ownsRow B 5 1 v xs.length (xs.map bv)
theorem own_nil (w : World) (B : Nat) : Own w B (.slice none 0 0) [] := ⟨rfl, .inl ⟨rfl, rfl⟩⟩
theorem own_empty {X : World} {B g : Nat} (hB : B ≤ g) (hg : X.heap[g]? = some (.cells #[] 5 (0, 0))) : Own X B (.slice (some ⟨g, 0, none⟩) 0 0) [] :=
  ⟨rfl, .inr ⟨g, 0, #[], rfl, hB, hg, Nat.le_refl _, Nat.zero_le _, rfl, rfl⟩⟩
theorem own_ls {w : World} {B : Nat} {v : Value} {xs : List UInt8} (h : Own w B v xs) : ∃ ao cap, v = .slice ao xs.length cap ∧ Ls w ao xs.length cap xs ∧ (∀ ad, ao = some ad → ∃ g, ad = ⟨g, 0, none⟩ ∧ B ≤ g) := by
  rcases h.2 with ⟨h', h2⟩ | ⟨g, cap, cur, h', hb, hg, hnc, hcm, hcs, htake⟩
  · have e : xs = [] := List.length_eq_zero_iff.1 h2
    subst e
    exact ⟨none, 0, h', ls_nil w, fun ad k => by cases k⟩
  · refine ⟨some ⟨g, 0, none⟩, cap, h', ⟨rfl, hnc, hcm, fun k => (by cases k), .inr ⟨g, 0, rfl, fun k hk => ?_⟩⟩, fun ad k => by cases k; exact ⟨g, rfl, hb⟩⟩
    rw [Nat.zero_add, cell_of_row w g _ _ _ _ hg]
    rw [Nat.mul_one] at htake
    have e : (cur.toList.take xs.length)[k]? = (xs.map bv)[k]? := by rw [htake]
    rw [List.getElem?_take_of_lt hk, List.getElem?_map, List.getElem?_eq_getElem hk] at e
    simpa using e
theorem own_ge {w : World} {B : Nat} {v : Value} {xs : List UInt8} (h : Own w B v xs) : ∀ k, v.ownBlock = some k → B ≤ k := by
  intro k hk
  rcases h.2 with ⟨h', _⟩ | ⟨g, cap, cur, h', hb, _⟩
  · rw [h'] at hk
    cases hk
  · rw [h'] at hk
    simp only [Value.ownBlock, Option.some.injEq] at hk
    omega
theorem own_mono {w : World} {B C : Nat} {v : Value} {xs : List UInt8} (h : Own w B v xs) (hc : C ≤ B) : Own w C v xs := by
  obtain ⟨h1, h2⟩ := h
  refine ⟨h1, ?_⟩
  rcases h2 with h2 | ⟨g, cap, cur, h', hb, h3⟩
  · exact .inl h2
  · exact .inr ⟨g, cap, cur, h', by omega, h3⟩
theorem own_alloc {w : World} {B : Nat} {v : Value} {xs : List UInt8} (h : Own w B v xs) (o : Obj) : Own (w.alloc o) B v xs := World.ownsRow.alloc h o
theorem own_below {w u : World} {B : Nat} {v : Value} {xs : List UInt8} (h : Own w B v xs) (k : Below w.heap.size w u) : Own u B v xs := by
  obtain ⟨h1, h2⟩ := h
  refine ⟨h1, ?_⟩
  rcases h2 with h2 | ⟨g, cap, cur, h', hb, hg, h3⟩
  · exact .inl h2
  · refine .inr ⟨g, cap, cur, h', hb, ?_, h3⟩
    have hl : g < w.heap.size := by
      obtain ⟨hl, _⟩ := Array.getElem?_eq_some_iff.1 hg
      exact hl
    rw [k.block g hl]
    exact hg
theorem wpList_append {ops : Array Oper} {rest : List Oper} {o : Oper} {a : Act} {Q : Exit → Act → World → Prop} (w : World) (hgd : o.guard = none) (s x : Operand)
    (ho : o.op = .call { callee := .builtin .append, args := #[s, x], argTypes := #[38, 38] })
    (B : Nat) (v : Value) (xs : List UInt8) (hs : a.eval s = v) (hown : Own w B v xs)
    (ao : Option Addr) (n cap : Nat) (zs : List UInt8) (hx : a.eval x = .slice ao n cap) (hn : n = zs.length) (hnil : ao = none → cap = 0) (hsrc : Seg w ao zs) (hl : xs.length + n ≤ 140737488355328) (hb : B ≤ w.heap.size)
    (h : ∀ v' w1, Own w1 B v' (xs ++ zs) → w.grownBy w1 v.ownBlock → (v'.ownBlock = v.ownBlock ∨ v'.ownBlock = some w.heap.size) → wpList Try.prog ops Q rest (a.put o.dst v') w1) : wpList Try.prog ops Q (o :: rest) a w := by
  refine wpList_plain hgd fun K hK => ?_
  obtain ⟨i0, hi, hz0, hz1, hz2⟩ := info_parts info
  have hmx : maxLen = 9223372036854775807 := rfl
  cases ao with
  | none =>
    obtain rfl : cap = 0 := hnil rfl
    rcases hsrc with e | ⟨b, off, e, _⟩
    · obtain rfl : n = 0 := by rw [hn, e]; rfl
      have hrun := run_append_owned_none (P := Try.prog) (w := w) B 38 o.type 5 i0 1 Try.underlying38 hi v _ _ hown
      unfold Oper.wp
      simp [execOp, ho, resolve, invoke, builtin, hs, hx, hrun, Result.andThen]
      exact hK _ _ (h v w (by rw [e, List.append_nil]; exact hown) ⟨rfl, rfl, rfl, Nat.le_refl _, fun _ _ _ => rfl⟩ (.inl rfl))
    · cases e
  | some ad =>
    obtain ⟨v', w', hr, h2, h3, _, h5⟩ := run_append_own_at (P := Try.prog) w B 38 o.type 5 i0 (.int .u8 0) 1 1 Try.underlying38 hi hz0 hz1 hz2 rfl (by omega) v xs.length (xs.map bv) hown ad n cap (zs.map bv) (by rw [List.length_map, hn, Nat.mul_one]) (by
      rcases hsrc with e | ⟨b, off, e, hc⟩
      · rw [e]
        intro j u hu
        simp at hu
      · cases e
        exact fun j u hu => news_of hc j u hu) (one_cell zs) (by omega) (by omega) hb
    unfold Oper.wp execOp
    simp only [ho, resolve, invoke, builtin, Sem.run_bind, Sem.run_pure, Result.andThen_ok, List.map_toArray, List.map_cons, List.map_nil, hs, hx, hr]
    refine hK _ _ (h v' w' ?_ h3 h5)
    unfold Own
    rw [List.map_append, List.length_append, ← hn]
    exact h2
theorem seg_one {X : World} {g : Nat} {x : UInt8} {v : Value} (h : X.heap[g]? = some (.cells #[v] 5 (0, 0))) (e : bv x = v) : Seg X (some ⟨g, 0, none⟩) [x] := by
  refine .inr ⟨g, 0, rfl, fun k hk => ?_⟩
  obtain rfl : k = 0 := by simpa using hk
  rw [cell_of_row X g _ _ _ _ h]
  rw [List.getElem_cons_zero, e]
  rfl
end Go.Proofs.Ytndfhnaafaijcaa.By

/- CONTRACTS OF THE BOOK OF MEMORY over bytes: Same, Roomy, Intact. -/
namespace Go.Proofs.Ytndfhnaafaijcaa.By
open Go.RowKit
open Mem

theorem take_snoc {xs ys : List UInt8} {k : Nat} (h : xs.take k = ys.take k) (ha : k < xs.length) (hb : k < ys.length) (e : xs[k] = ys[k]) : xs.take (k + 1) = ys.take (k + 1) := by
  rw [List.take_succ_eq_append_getElem ha, List.take_succ_eq_append_getElem hb, h, e]
set_option maxHeartbeats 1000000 in
theorem same_any (xs ys : List UInt8) (ao bo : Option Addr) (n m ca cb : Nat) (w : World) (hA : Ls w ao n ca xs) (hB : Ls w bo m cb ys) :
    Calls Try.prog 16 #[.slice ao n ca, .slice bo m cb] w fun e w' => e = .returned (.bool (decide (xs = ys))) ∧ Below w.heap.size w w' := by
  have HA := Lib.hid hA
  have HB := Lib.hid hB
  have HN := Lib.hid hA.len
  have HM := Lib.hid hB.len
  have hca := hA.reach
  have hfa := hA.fits
  have hcb := hB.reach
  have hfb := hB.fits
  clear hA hB
  by_cases hnm : n = m
  · subst hnm
    have hne : ((n : Int) != (n : Int)) = false := bne_self_eq_false _
    go_enter Try.func16, Try.ntmps16
    go_wp2
    go_loopw [5] (fun i wr => ∃ k : Nat, k ≤ n ∧ i = .int .i64 k ∧ Hid (xs.take k = ys.take k) ∧ Hid (Below w.heap.size w wr)) (fun i _ => n - (intOf i).toNat)
    case atStart => exact ⟨0, Nat.zero_le _, rfl, Lib.hid rfl, Lib.hid (Below.refl _ _)⟩
    case round =>
      obtain ⟨k, hk, rfl, HT, HBz⟩ := hrel
      by_cases hlt : k < n
      · obtain ⟨a, oa, rfl⟩ := HA.out.at (by omega)
        obtain ⟨b, ob, rfl⟩ := HB.out.at (by omega)
        have hka : k < xs.length := HN.out ▸ hlt
        have hkb : k < ys.length := HM.out ▸ hlt
        have c1 := HA.out.row k hka
        have c2 := HB.out.row k hkb
        rw [← (bcell HBz.out).1 _ _ (cell_lt c1)] at c1
        rw [← (bcell HBz.out).1 _ _ (cell_lt c2)] at c2
        unfold bv at c1 c2
        have hlt' : (k : Int) < (n : Int) := by omega
        by_cases hxy : xs[k] = ys[k]
        · have HT' : Hid (xs.take (k + 1) = ys.take (k + 1)) := Lib.hid (take_snoc HT.out hka hkb hxy)
          have hne : ((xs[k].toNat : Int) != (ys[k].toNat : Int)) = false := by rw [hxy]; simp
          clear hxy
          generalize xs[k] = x at *
          generalize ys[k] = y at *
          go_wp2
          go_quiet (fail)
          go_wp2
          go_roundw
          case rel => exact ⟨k + 1, by omega, by go_num, HT', Lib.hid (below_drewN HBz.out _)⟩
          case measure => simp [intOf]; omega
        · have hne : ((xs[k].toNat : Int) != (ys[k].toNat : Int)) = true := by
            rw [bne_iff_ne]
            intro h
            exact hxy (UInt8.toNat_inj.1 (by omega))
          have HF : Hid (decide (xs = ys) = false) := Lib.hid (by
            rw [decide_eq_false_iff_not]
            intro h
            subst h
            exact hxy rfl)
          clear hxy
          generalize xs[k] = x at *
          generalize ys[k] = y at *
          go_wp2
          go_quiet (fail)
          go_wp2
          go_ret
          exact ⟨by rw [HF.out]; rfl, below_drewN HBz.out _⟩
      · have HF : Hid (decide (xs = ys) = true) := Lib.hid (by
          rw [decide_eq_true_iff]
          have h1 := HT.out
          have h2 := HN.out
          have h3 := HM.out
          rwa [List.take_of_length_le (by omega), List.take_of_length_le (by omega)] at h1)
        go_wp2
        go_ret
        exact ⟨by rw [HF.out]; rfl, HBz.out⟩
  · have HF : Hid (decide (xs = ys) = false) := Lib.hid (by
      rw [decide_eq_false_iff_not]
      intro h
      subst h
      exact hnm (HN.out.trans HM.out.symm))
    have hne : ((n : Int) != (m : Int)) = true := bne_iff_ne.2 (by omega)
    go_enter Try.func16, Try.ntmps16
    go_wp2
    go_ret
    exact ⟨by rw [HF.out]; rfl, Below.refl _ _⟩
theorem set_rest {L t : List UInt8} {n k : Nat} {v : UInt8} (hn : L.length = n) : (L ++ t).set (n + k) v = L ++ t.set k v := by
  subst hn
  rw [List.set_append_right _ _ (by omega), Nat.add_sub_cancel_left]
theorem take_set {t : List UInt8} {k : Nat} {v : UInt8} (hk : k < t.length) (h : t.take k = List.replicate k v) : (t.set k v).take (k + 1) = List.replicate (k + 1) v := by
  rw [List.take_succ_eq_append_getElem (by simpa using hk), List.take_set_of_le (Nat.le_refl k), h, List.replicate_succ']
  simp
set_option maxHeartbeats 2000000 in
theorem roomy (bs : List UInt8) (mark : UInt8) (ao : Option Addr) (n cap : Nat) (w : World) (hL : Ls w ao n cap bs) (hn : n ≤ 140737488355000) :
    Calls Try.prog 24 #[.slice ao n cap, bv mark] w fun e w' => e = .returned (.slice (some ⟨w.heap.size, 0, none⟩) (n + 80) (n + 80)) ∧ Block w' w.heap.size (bs ++ List.replicate 80 mark) ∧ Below w.heap.size w w' := by
  have HL := Lib.hid hL
  have HN := Lib.hid hL.len
  have hcap := hL.reach
  have hfit := hL.fits
  clear hL
  have hmk := make (n + 80) (by omega)
  rw [show ((n + 80 : Nat) : Int) = (n : Int) + 80 from by omega] at hmk
  have hb0 := block_made w (n + 80)
  rw [← List.replicate_append_replicate] at hb0
  have hB1 := (Below.refl w.heap.size w).alloc (Nat.le_refl _) (.cells (zeros (n + 80)) 5)
  obtain ⟨W1, hcp, hblk, hbel, hsz⟩ := copy (w.alloc (.cells (zeros (n + 80)) 5)) w.heap.size 0 [] (List.replicate 80 0) (n + 80) ao n cap bs (by simpa using hb0) rfl HN.out (HL.out.below hB1).seg (some ⟨w.heap.size, 0, none⟩) (fun _ => rfl)
  rw [List.length_replicate] at hcp
  rw [List.nil_append] at hblk
  have HB1 := Lib.hid (hbel _ _ hB1 (Nat.le_refl _))
  have HBk := Lib.hid hblk
  have HM : Hid (bv mark = .int .u8 (mark.toNat : Int)) := Lib.hid rfl
  clear hb0 hblk hbel hsz hB1
  rw [HM.out]
  go_enter Try.func24, Try.ntmps24
  go_wp2
  clear hmk hcp
  generalize (mark.toNat : Int) = mk at *
  go_loopw [6] (fun i wr => ∃ (k : Nat) (t : List UInt8), k ≤ 80 ∧ i = .int .i64 ((n : Int) + k) ∧ Hid (t.length = 80 ∧ t.take k = List.replicate k mark ∧ Block wr w.heap.size (bs ++ t)) ∧ Hid (Below w.heap.size w wr)) (fun i _ => (n : Int).toNat + 80 - (intOf i).toNat)
  case atStart => exact ⟨0, List.replicate 80 0, by omega, by go_num, Lib.hid ⟨by simp, rfl, HBk.out⟩, HB1⟩
  case round =>
    obtain ⟨k, t, hk, rfl, HT, HB⟩ := hrel
    by_cases hlt : k < 80
    · have hkl : n + k < (bs ++ t).length := by rw [List.length_append, HT.out.1, ← HN.out]; omega
      have hg := HT.out.2.2.row (n + k) hkl
      have hfz := HT.out.2.2.frozen (n + k)
      obtain ⟨v0, hv0⟩ : ∃ v0, bv (bs ++ t)[n + k] = v0 := ⟨_, rfl⟩
      rw [hv0] at hg
      clear hv0
      go_wp2
      go_roundw
      case rel =>
        refine ⟨k + 1, t.set k mark, by omega, by go_num, Lib.hid ⟨by simpa using HT.out.1, take_set (by rw [HT.out.1]; exact hlt) HT.out.2.1, ?_⟩, Lib.hid (HB.out.setCell (p := ⟨w.heap.size, n + k, none⟩) (Nat.le_refl _) _)⟩
        have h := HT.out.2.2.store (n + k) mark
        rw [set_rest HN.out.symm, HM.out] at h
        exact h
      case measure => simp [intOf]; omega
    · have HF : Hid (t = List.replicate 80 mark) := Lib.hid (by
        have h := HT.out.2.1
        rw [List.take_of_length_le (by rw [HT.out.1]; omega), show k = 80 by omega] at h
        exact h)
      go_wp2
      go_ret
      exact ⟨rfl, HF.out ▸ HT.out.2.2, HB.out⟩
set_option maxHeartbeats 2000000 in
theorem intact (bs : List UInt8) (mark : UInt8) (ao : Option Addr) (g n cap : Nat) (w : World) (hL : Ls w ao n cap bs) (hB : Block w g (bs ++ List.replicate 80 mark)) (hn : n ≤ 140737488355000) :
    Calls Try.prog 26 #[.slice (some ⟨g, 0, none⟩) (n + 80) (n + 80), .slice ao n cap, bv mark] w fun e w' => e = .returned (.bool true) ∧ Below w.heap.size w w' := by
  have HL := Lib.hid hL
  have HN := Lib.hid hL.len
  have hcap := hL.reach
  have hfit := hL.fits
  have HBk := Lib.hid hB
  have hfl := hB.ls (by rw [List.length_append, List.length_replicate, ← hL.len]; omega)
  rw [show (bs ++ List.replicate 80 mark).length = n + 80 by rw [List.length_append, List.length_replicate, ← hL.len]] at hfl
  obtain ⟨hsl, hL1⟩ := hfl.to n (by omega)
  rw [List.take_left' hL.len.symm] at hL1
  have HL1 := Lib.hid hL1
  clear hL hB hfl hL1
  have hne : (((n : Int) + 80) != ((n : Int) + 80)) = false := bne_self_eq_false _
  unfold bv
  go_enter Try.func26, Try.ntmps26
  go_wp2_with fail
  refine (same_any bs bs _ _ _ _ _ _ w HL1.out HL.out).mono ?_
  rintro e w1 ⟨rfl, b1⟩
  have HB1 := Lib.hid b1
  have HBk1 := Lib.hid (HBk.out.below b1)
  rw [show decide (bs = bs) = true from decide_eq_true rfl]
  clear b1 hsl
  go_wp2_with fail
  go_loop [7] (fun i => ∃ k : Nat, k ≤ 80 ∧ i = .int .i64 ((n : Int) + k)) (fun i => (n : Int).toNat + 80 - (intOf i).toNat)
  case atStart => exact ⟨0, by omega, by go_num⟩
  case round =>
    obtain ⟨k, hk, rfl⟩ := hrel
    by_cases hlt : k < 80
    · have hc : w1.cell? ⟨g, n + k, none⟩ = some (.int .u8 (mark.toNat : Int)) := by
        have hnb := HN.out
        rw [HBk1.out.row (n + k) (by rw [List.length_append, List.length_replicate]; omega), List.getElem_append_right (by omega), List.getElem_replicate]
        rfl
      have hxx : ((mark.toNat : Int) != (mark.toNat : Int)) = false := by simp
      go_wp2
      go_round
      case rel => exact ⟨k + 1, by omega, by go_num⟩
      case measure => simp [intOf]; omega
    · go_wp2
      go_ret
      exact ⟨rfl, HB1.out⟩
end Go.Proofs.Ytndfhnaafaijcaa.By
