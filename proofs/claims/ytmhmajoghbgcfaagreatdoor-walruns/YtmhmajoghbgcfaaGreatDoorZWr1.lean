import Derived.Test.YtmhmajoghbgcfaaGreatDoorRows
import Derived.WalkKit
import Derived.WalkLawsBesides
import Derived.Laws.BitsAllLaws
import Derived.Deep.QuietTactic
import Derived.BigQuiet
import Derived.WalkSmall
import Derived.WalkSpells
import Derived.Lib.Hide
import Derived.Lib.OthersKept
import Derived.Laws.Strings3
import Derived.Laws.Runes
import Derived.Laws.Concat
import Derived.Deep.RegionHeld3
import Derived.Maps.AppendAt
import Derived.Laws.AppendOwnNone
import Derived.Laws.Rows
import Derived.Laws.CopyOwn
import Derived.Laws.MakeOwn
import Derived.Laws.BytesArg
import Derived.Lib.Zigzag
import Derived.Lib.VarintBits
import Derived.Lib.QuietBelow
namespace Go.Proofs.YtmhmajoghbgcfaaGreatDoor
open Go.RowKit
theorem ret_bool {a b : Bool} (h : a = b) : Ending.returned (.bool a) = .returned (.bool b) := by rw [h]
theorem ret_int {a b : Int} (h : a = b) : Ending.returned (.int .i64 a) = .returned (.int .i64 b) := by rw [h]
def Fit (x : Int) : Prop := -9223372036854775808 ≤ x ∧ x ≤ 9223372036854775807
end Go.Proofs.YtmhmajoghbgcfaaGreatDoor
namespace Go.Proofs.YtmhmajoghbgcfaaGreatDoor.Pk
def zz (n : Int) : Nat := if n < 0 then (-2 * n - 1).toNat else (2 * n).toNat
def uz (u : Nat) : Int := if u % 2 = 1 then -((u / 2 : Nat) : Int) - 1 else ((u / 2 : Nat) : Int)
theorem uz_zz (n : Int) : uz (zz n) = n := by
 unfold uz zz
 split <;> split <;> omega
theorem zz_lt {n : Int} (h : Fit n) : zz n < 18446744073709551616 := by
 unfold Fit at h
 unfold zz
 split <;> omega
theorem uz_fit {u : Nat} (h : u < 18446744073709551616) : Fit (uz u) := by
 unfold uz Fit
 split <;> omega
def vbF : Nat → Nat → List UInt8
 | 0,_ => []
 | f + 1,u => if u < 128 then [UInt8.ofNat u] else UInt8.ofNat (u % 128 + 128) :: vbF f (u / 128)
def vb (u : Nat) : List UInt8 := vbF 10 u
theorem vbF_low {f u : Nat} (h : u < 128) : vbF (f + 1) u = [UInt8.ofNat u] := by rw [vbF,if_pos h]
theorem vbF_high {f u : Nat} (h : ¬ u < 128) : vbF (f + 1) u = UInt8.ofNat (u % 128 + 128) :: vbF f (u / 128) := by rw [vbF,if_neg h]
theorem vbF_len : ∀ (f u : Nat),(vbF f u).length ≤ f
 | 0,_ => Nat.le_refl _
 | f + 1,u => by
  rw [vbF]
  split
  · simp
  ·
   simp
   exact vbF_len f _
theorem vbF_pos {f u : Nat} : 1 ≤ (vbF (f + 1) u).length := by
 rw [vbF]
 split <;> simp
def lim (c : Nat) : Nat := 2 * 128 ^ (10 - c)
theorem lim_one : lim 1 = 18446744073709551616 := by decide
theorem lim_ten : lim 10 = 2 := by decide
theorem lim_step {c : Nat} (h : c < 10) : lim c = 128 * lim (c + 1) := by
 unfold lim
 rw [show 10 - c = (10 - (c + 1)) + 1 by omega,Nat.pow_succ,Nat.mul_comm (128 ^ (10 - (c + 1))) 128,← Nat.mul_assoc,← Nat.mul_assoc,Nat.mul_comm 2 128]
def wd (u : Nat) : Nat := (vb u).length
def rd : Nat → Nat → List UInt8 → Int ⊕ (Nat × Nat)
 | _,_,[] => .inl 3
 | k,u,x :: l => if k = 9 ∧ 1 < x.toNat then .inl 4 else if 128 ≤ x.toNat then rd (k + 1) (u + x.toNat % 128 * 128 ^ k) l else if x.toNat = 0 ∧ 0 < k then .inl 4 else .inr (u + x.toNat * 128 ^ k,k + 1)
def num (l : List UInt8) : Int ⊕ (Nat × Nat) := rd 0 0 l
theorem rd_nil (k u : Nat) : rd k u [] = .inl 3 := rfl
theorem rd_ten {k u : Nat} {x : UInt8} {l : List UInt8} (h : k = 9) (hx : 1 < x.toNat) : rd k u (x :: l) = .inl 4 := by rw [rd,if_pos ⟨h,hx⟩]
theorem rd_more {k u : Nat} {x : UInt8} {l : List UInt8} (h : ¬ (k = 9 ∧ 1 < x.toNat)) (hx : 128 ≤ x.toNat) : rd k u (x :: l) = rd (k + 1) (u + x.toNat % 128 * 128 ^ k) l := by rw [rd,if_neg h,if_pos hx]
theorem rd_zero {k u : Nat} {x : UInt8} {l : List UInt8} (hx : x.toNat = 0) (hk : 0 < k) : rd k u (x :: l) = .inl 4 := by rw [rd,if_neg (by omega),if_neg (by omega),if_pos ⟨hx,hk⟩]
theorem rd_last {k u : Nat} {x : UInt8} {l : List UInt8} (h : ¬ (k = 9 ∧ 1 < x.toNat)) (hx : x.toNat < 128) (h0 : ¬ (x.toNat = 0 ∧ 0 < k)) : rd k u (x :: l) = .inr (u + x.toNat * 128 ^ k,k + 1) := by rw [rd,if_neg h,if_neg (by omega),if_neg h0]
theorem byte_nat {n : Nat} (h : n < 256) : (UInt8.ofNat n).toNat = n := by
 simp
 omega
theorem rd_vb : ∀ (f k u a : Nat) (r : List UInt8),k + f = 10 → u < 128 ^ f → (1 ≤ f → u < 2 * 128 ^ (9 - k)) → (0 < k → 0 < u) → 1 ≤ f → rd k a (vbF f u ++ r) = .inr (a + u * 128 ^ k,k + (vbF f u).length)
 | 0,_,_,_,_,_,_,_,_,h => by omega
 | f + 1,k,u,a,r,hk,hu,h9,h0,_ => by
  by_cases hs : u < 128
  ·
   rw [vbF_low hs,List.cons_append,List.nil_append,rd_last (by
    rintro ⟨rfl,hx⟩
    rw [byte_nat (by omega)] at hx
    have := h9 (by omega)
    omega) (by rw [byte_nat (by omega)]; exact hs) (by
    rw [byte_nat (by omega)]
    intro h
    have := h0 h.2
    omega),byte_nat (by omega)]
   simp
  ·
   have hf : 1 ≤ f := by
    by_cases hf : 1 ≤ f
    · exact hf
    ·
     obtain rfl : f = 0 := by omega
     simp at hu
     omega
   rw [vbF_high hs,List.cons_append,rd_more (by
    rintro ⟨rfl,hx⟩
    omega) (by rw [byte_nat (by omega)]; omega),byte_nat (by omega)]
   have hp : 128 ^ (9 - k) = 128 * 128 ^ (9 - (k + 1)) := by
    rw [show 9 - k = (9 - (k + 1)) + 1 by omega,Nat.pow_succ,Nat.mul_comm]
   have h9' := h9 (by omega)
   rw [hp] at h9'
   rw [Nat.pow_succ] at hu
   rw [rd_vb f (k + 1) (u / 128) _ r (by omega) (by omega) (fun _ => by omega) (fun _ => by omega) hf]
   congr 1
   have e1 : (u % 128 + 128) % 128 = u % 128 := by omega
   rw [e1,List.length_cons,Nat.pow_succ]
   refine Prod.ext ?_ (by dsimp only; omega)
   dsimp only
   have e2 : u = u % 128 + 128 * (u / 128) := by omega
   generalize 128 ^ k = P
   rw [Nat.add_assoc]
   congr 1
   have e3 : u % 128 * P + u / 128 * (P * 128) = (u % 128 + 128 * (u / 128)) * P := by
    rw [Nat.add_mul,Nat.mul_comm P 128,← Nat.mul_assoc,Nat.mul_comm (u / 128) 128]
   rw [e3,← e2]
theorem num_vb {u : Nat} (h : u < 18446744073709551616) (r : List UInt8) : num (vb u ++ r) = .inr (u,wd u) := by
 unfold num vb wd
 rw [rd_vb 10 0 u 0 r rfl (by omega) (fun _ => by omega) (fun h => by omega) (by omega)]
 simp [vb]
theorem vb_rd : ∀ (l : List UInt8) (k a v s : Nat),k ≤ 9 → rd k a l = .inr (v,s) → ∃ u,v = a + u * 128 ^ k ∧ l = vbF (10 - k) u ++ l.drop (s - k) ∧ (vbF (10 - k) u).length = s - k ∧ k < s ∧ u < 2 * 128 ^ (9 - k) ∧ (0 < k → 0 < u)
 | [],k,a,v,s,_,h => by
  rw [rd_nil] at h
  cases h
 | x :: l,k,a,v,s,hk,h => by
  have hx := UInt8.toNat_lt x
  have hx256 : x.toNat < 256 := hx
  by_cases h9 : k = 9 ∧ 1 < x.toNat
  ·
   rw [rd_ten h9.1 h9.2] at h
   cases h
  ·
   by_cases hm : 128 ≤ x.toNat
   ·
    rw [rd_more h9 hm] at h
    obtain ⟨u,e1,e2,e3,e4,e5,e6⟩ := vb_rd l (k + 1) _ v s (by omega) h
    have e0 := e6 (by omega)
    have hf : 10 - k = (9 - k) + 1 := by omega
    have hn : ¬ (x.toNat % 128 + 128 * u < 128) := by omega
    have ed : (x.toNat % 128 + 128 * u) / 128 = u := by omega
    have em : (x.toNat % 128 + 128 * u) % 128 + 128 = x.toNat := by omega
    have hv : vbF (10 - k) (x.toNat % 128 + 128 * u) = x :: vbF (10 - (k + 1)) u := by
     rw [hf,vbF_high hn,ed,em,show 10 - (k + 1) = 9 - k by omega]
     simp
    have hp : 128 ^ (9 - k) = 128 * 128 ^ (9 - (k + 1)) := by
     rw [show 9 - k = (9 - (k + 1)) + 1 by omega,Nat.pow_succ,Nat.mul_comm]
    refine ⟨x.toNat % 128 + 128 * u,?_,?_,?_,by omega,?_,fun _ => by omega⟩
    ·
     rw [e1,Nat.pow_succ,Nat.add_mul,Nat.add_assoc]
     congr 2
     rw [Nat.mul_comm (128 ^ k) 128,← Nat.mul_assoc,Nat.mul_comm u 128]
    · rw [hv,show s - k = (s - (k + 1)) + 1 by omega,List.drop_succ_cons,List.cons_append,← e2]
    ·
     rw [hv,List.length_cons,e3]
     omega
    ·
     rw [hp]
     omega
   ·
    by_cases hz : x.toNat = 0 ∧ 0 < k
    ·
     rw [rd_zero hz.1 hz.2] at h
     cases h
    ·
     rw [rd_last h9 (by omega) hz] at h
     injection h with h
     injection h with e1 e2
     subst e1 e2
     have hv : vbF (10 - k) x.toNat = [x] := by
      rw [show 10 - k = (9 - k) + 1 by omega,vbF_low (by omega)]
      simp
     have h1 : 1 ≤ 128 ^ (9 - k) := Nat.pos_of_ne_zero (by simp)
     refine ⟨x.toNat,rfl,?_,?_,by omega,?_,fun _ => by omega⟩
     ·
      rw [hv,show k + 1 - k = 1 by omega]
      rfl
     ·
      rw [hv]
      simp
     ·
      by_cases h99 : k = 9
      ·
       subst h99
       simp
       omega
      ·
       have : 128 ^ (9 - k) = 128 * 128 ^ (9 - k - 1) := by
        rw [show 9 - k = (9 - k - 1) + 1 by omega,Nat.pow_succ,Nat.mul_comm]
        simp
       have h2 : 1 ≤ 128 ^ (9 - k - 1) := Nat.pos_of_ne_zero (by simp)
       omega
theorem num_is {l : List UInt8} {u s : Nat} (h : num l = .inr (u,s)) : l = vb u ++ l.drop s ∧ wd u = s ∧ u < 18446744073709551616 ∧ 0 < s := by
 obtain ⟨v,e1,e2,e3,e4,e5,_⟩ := vb_rd l 0 0 u s (by omega) h
 simp at e1
 subst e1
 exact ⟨e2,by unfold wd vb; simpa using e3,by simpa using e5,e4⟩
end Go.Proofs.YtmhmajoghbgcfaaGreatDoor.Pk
namespace Go.Proofs.YtmhmajoghbgcfaaGreatDoor
open Go.RowKit
def txt (s : ByteArray) : List UInt8 := s.data.toList
theorem txt_len (s : ByteArray) : (txt s).length = s.size := Array.length_toList
theorem txt_ext {s t : ByteArray} (h : txt s = txt t) : s = t := by
 cases s; cases t
 simp only [txt] at h
 exact congrArg ByteArray.mk (Array.toList_inj.1 h)
theorem tl (s : ByteArray) : s.toList = txt s := ByteArray.toList_eq s
theorem size_mk (l : List UInt8) : (ByteArray.mk l.toArray).size = l.length := rfl
theorem add_lists (a b : List UInt8) (h : a.length + b.length ≤ 100) : ∀ u,(Op.stringOp .add ⟨a.toArray⟩ ⟨b.toArray⟩).run Tryz.prog u = .ok (.string ⟨(a ++ b).toArray⟩) u := by
 intro u
 rw [run_string_add_sum u _ _ (by rw [size_mk,size_mk]; omega),ByteArray.mk_append_mk]
end Go.Proofs.YtmhmajoghbgcfaaGreatDoor
namespace Go.Proofs.YtmhmajoghbgcfaaGreatDoor.Mem
open Go.RowKit
theorem below_box {w0 w : World} (h : Below w0.heap.size w0 w) (o : Obj) : Below w0.heap.size w0 (w.alloc o) := h.alloc h.size o
theorem bcell {W w1 : World} (hb : Below W.heap.size W w1) : (∀ b o,b < W.heap.size → w1.cell? ⟨b,o,none⟩ = W.cell? ⟨b,o,none⟩) ∧ (∀ b o,b < W.heap.size → w1.frozen? ⟨b,o,none⟩ = W.frozen? ⟨b,o,none⟩) :=
 ⟨fun b o h => hb.cell (p := ⟨b,o,none⟩) h,fun b o h => hb.frozen (p := ⟨b,o,none⟩) h⟩
theorem cell_lt {u : World} {b o : Nat} {v : Value} (h : u.cell? ⟨b,o,none⟩ = some v) : b < u.heap.size := by
 by_cases k : b < u.heap.size
 · exact k
 ·
  exfalso
  simp [World.cell?,Array.getElem?_eq_none (Nat.le_of_not_lt k)] at h
theorem bchain {w0 u v : World} (h : Below w0.heap.size w0 u) (k : Below u.heap.size u v) : Below w0.heap.size w0 v := h.trans (k.mono h.size)
theorem bset {w0 u : World} {p : Nat} (h : Below w0.heap.size w0 u) (hp : w0.heap.size ≤ p) (o : Nat) (x : Value) : Below w0.heap.size w0 (u.setCell ⟨p,o,none⟩ x) := h.setCell hp x
end Go.Proofs.YtmhmajoghbgcfaaGreatDoor.Mem
namespace Go.Proofs.YtmhmajoghbgcfaaGreatDoor.By
open Go.RowKit
open Mem
def bv (b : UInt8) : Value := .int .u8 (b.toNat : Int)
def Seg (w : World) (ao : Option Addr) (bs : List UInt8) : Prop := bs = [] ∨ ∃ b off,ao = some ⟨b,off,none⟩ ∧ ∀ (k : Nat) (hk : k < bs.length),w.cell? ⟨b,off + k,none⟩ = some (bv bs[k])
theorem Seg.below {w v : World} {ao : Option Addr} {rs : List UInt8} (h : Seg w ao rs) (k : Below w.heap.size w v) : Seg v ao rs := by
 rcases h with h | ⟨b,off,e,h⟩
 · exact .inl h
 · exact .inr ⟨b,off,e,fun i hi => by rw [(bcell k).1 _ _ (cell_lt (h i hi))]; exact h i hi⟩
structure Ls (w : World) (ao : Option Addr) (n cap : Nat) (rs : List UInt8) : Prop where
 len : n = rs.length
 fits : n ≤ cap
 reach : cap ≤ 9223372036854775807
 nil : ao = none → cap = 0
 seg : Seg w ao rs
theorem Ls.below {w v : World} {ao : Option Addr} {n cap : Nat} {rs : List UInt8} (h : Ls w ao n cap rs) (k : Below w.heap.size w v) : Ls v ao n cap rs := ⟨h.len,h.fits,h.reach,h.nil,h.seg.below k⟩
theorem Ls.at {w : World} {ao : Option Addr} {n cap : Nat} {rs : List UInt8} (h : Ls w ao n cap rs) (hn : 0 < n) : ∃ b off,ao = some ⟨b,off,none⟩ := by
 rcases h.seg with e | ⟨b,off,e,_⟩
 ·
  have := h.len
  rw [e] at this
  simp at this
  omega
 · exact ⟨b,off,e⟩
theorem Ls.row {w : World} {b off n cap : Nat} {rs : List UInt8} (h : Ls w (some ⟨b,off,none⟩) n cap rs) (k : Nat) (hk : k < rs.length) : w.cell? ⟨b,off + k,none⟩ = some (bv rs[k]) := by
 rcases h.seg with e | ⟨b',off',e,hs⟩
 ·
  subst e
  simp at hk
 ·
  cases e
  exact hs k hk
theorem ls_nil (w : World) : Ls w none 0 0 [] := ⟨rfl,Nat.le_refl _,by omega,fun _ => rfl,.inl rfl⟩
theorem und : Tryz.prog.underlying 59 = some (.slice (Tryz.prog.elem 59)) := by kernel_rfl
theorem size (u : World) : (sizeOf (Tryz.prog.elem 59)).run Tryz.prog u = .ok 1 u := by
 have h : (Tryz.prog.info? (Tryz.prog.elem 59)).map (·.size) = some 1 := by kernel_rfl
 obtain ⟨i,hi,hs⟩ := Option.map_eq_some_iff.1 h
 simp [sizeOf,typeInfo,hi,hs]
theorem Ls.to {w : World} {ao : Option Addr} {n cap : Nat} {rs : List UInt8} (h : Ls w ao n cap rs) (k : Nat) (hk : k ≤ n) :
  (∀ u,(Instr.slice 59 (.slice ao n cap) none (some (.int .i64 (k : Int))) none).run Tryz.prog u = .ok (.slice ao k cap) u) ∧ Ls w ao k cap (rs.take k) := by
 have hl := h.len
 have hf := h.fits
 refine ⟨fun u => ?_,⟨by rw [List.length_take]; omega,by omega,h.reach,h.nil,?_⟩⟩
 ·
  rw [run_slice_h u 59 ao n cap und .i64 k (by omega) (by omega),size]
  have e : Option.map (fun x : Addr => x.add 0) ao = ao := by cases ao <;> simp [Addr.add]
  simp [Result.andThen,sliced,e]
 ·
  rcases h.seg with e | ⟨b,off,e,hc⟩
  · exact .inl (by rw [e]; simp)
  ·
   refine .inr ⟨b,off,e,fun j hj => ?_⟩
   rw [List.length_take] at hj
   rw [List.getElem_take]
   exact hc j (by omega)
theorem Ls.from {w : World} {ao : Option Addr} {n cap : Nat} {rs : List UInt8} (h : Ls w ao n cap rs) (k : Nat) (hk : k ≤ n) :
  ∃ ao2 cap2,(∀ u,(Instr.slice 59 (.slice ao n cap) (some (.int .i64 (k : Int))) none none).run Tryz.prog u = .ok (.slice ao2 (n - k) cap2) u) ∧ Ls w ao2 (n - k) cap2 (rs.drop k) ∧ (k < n → ∀ b off,ao = some ⟨b,off,none⟩ → ao2 = some ⟨b,off + k,none⟩) := by
 have hl := h.len
 have hf := h.fits
 refine ⟨if cap = k then ao else ao.map (·.add k),cap - k,fun u => ?_,⟨by rw [List.length_drop]; omega,by omega,by have := h.reach; omega,?_,?_⟩,fun hkn b off e => by rw [if_neg (by omega),e]; simp only [Option.map_some,Go.WideShapes.add_plain]⟩
 ·
  rw [run_slice_l u 59 ao n cap und .i64 k (by omega) (by omega),size]
  simp [Result.andThen,sliced]
 ·
  by_cases e : cap = k
  · omega
  ·
   rw [if_neg e]
   cases ao with
   | none => have := h.nil rfl; omega
   | some a => exact fun k => by cases k
 ·
  by_cases hkn : k = n
  · exact .inl (List.drop_eq_nil_of_le (by omega))
  ·
   rcases h.seg with e | ⟨b,off,rfl,hc⟩
   · exact .inl (by rw [e]; simp)
   ·
    refine .inr ⟨b,off + k,?_,fun j hj => ?_⟩
    ·
     rw [if_neg (by omega)]
     simp only [Option.map_some,Go.WideShapes.add_plain]
    ·
     rw [List.length_drop] at hj
     rw [List.getElem_drop,Nat.add_assoc]
     exact hc (k + j) (by omega)
theorem Ls.mid {w : World} {ao : Option Addr} {n cap : Nat} {rs : List UInt8} (h : Ls w ao n cap rs) (k m : Nat) (hkm : k ≤ m) (hm : m ≤ n) :
  ∃ ao2 cap2,(∀ u,(Instr.slice 59 (.slice ao n cap) (some (.int .i64 (k : Int))) (some (.int .i64 (m : Int))) none).run Tryz.prog u = .ok (.slice ao2 (m - k) cap2) u) ∧ Ls w ao2 (m - k) cap2 ((rs.take m).drop k) := by
 have hl := h.len
 have hf := h.fits
 refine ⟨if cap = k then ao else ao.map (·.add k),cap - k,fun u => ?_,⟨by rw [List.length_drop,List.length_take]; omega,by omega,by have := h.reach; omega,?_,?_⟩⟩
 ·
  rw [run_slice_lh u 59 ao n cap und .i64 .i64 k m (by omega) (by omega) (by omega),size]
  simp [Result.andThen,sliced]
 ·
  by_cases e : cap = k
  · omega
  ·
   rw [if_neg e]
   cases ao with
   | none => have := h.nil rfl; omega
   | some a => exact fun k => by cases k
 ·
  by_cases hkn : k = m
  · exact .inl (List.drop_eq_nil_of_le (by rw [List.length_take]; omega))
  ·
   rcases h.seg with e | ⟨b,off,rfl,hc⟩
   · exact .inl (by rw [e]; simp)
   ·
    refine .inr ⟨b,off + k,?_,fun j hj => ?_⟩
    ·
     rw [if_neg (by omega)]
     simp only [Option.map_some,Go.WideShapes.add_plain]
    ·
     rw [List.length_drop,List.length_take] at hj
     rw [List.getElem_drop,List.getElem_take,Nat.add_assoc]
     exact hc (k + j) (by omega)
theorem one_cell (rs : List UInt8) : ∀ v ∈ rs.map bv,v.oneCell' = true := by
 intro v hv
 obtain ⟨r,_,rfl⟩ := List.mem_map.1 hv
 rfl
theorem news_of {w : World} {b off : Nat} {rs : List UInt8} (h : ∀ (k : Nat) (hk : k < rs.length),w.cell? ⟨b,off + k,none⟩ = some (bv rs[k])) (j : Nat) (u : Value) (hu : (rs.map bv)[j]? = some u) : w.cell? ((⟨b,off,none⟩ : Addr).add j) = some u := by
 obtain ⟨hj,e⟩ := List.getElem?_eq_some_iff.1 hu
 rw [List.length_map] at hj
 rw [List.getElem_map] at e
 rw [Go.WideShapes.add_plain,h j hj,e]
def Block (w : World) (g : Nat) (bs : List UInt8) : Prop := w.heap[g]? = some (.cells (bs.map bv).toArray 5 (0,0))
theorem Block.lt {w : World} {g : Nat} {bs : List UInt8} (h : Block w g bs) : g < w.heap.size := by
 obtain ⟨hg,_⟩ := Array.getElem?_eq_some_iff.1 h
 exact hg
theorem Block.below {w u : World} {g : Nat} {bs : List UInt8} (h : Block w g bs) (k : Below w.heap.size w u) : Block u g bs := (k.block g h.lt).trans h
theorem Block.row {w : World} {g : Nat} {bs : List UInt8} (h : Block w g bs) (k : Nat) (hk : k < bs.length) : w.cell? ⟨g,k,none⟩ = some (bv bs[k]) := by
 rw [cell_of_row w g _ _ _ _ h]
 simp [hk]
theorem Block.frozen {w : World} {g : Nat} {bs : List UInt8} (h : Block w g bs) (k : Nat) : w.frozen? ⟨g,k,none⟩ = false := frozen_of_row w g k _ _ h
theorem Block.ls {w : World} {g : Nat} {bs : List UInt8} (h : Block w g bs) (hm : bs.length ≤ 9223372036854775807) : Ls w (some ⟨g,0,none⟩) bs.length bs.length bs :=
 ⟨rfl,Nat.le_refl _,hm,(fun k => by cases k),.inr ⟨g,0,rfl,fun k hk => by rw [Nat.zero_add]; exact h.row k hk⟩⟩
theorem Block.store {w : World} {g : Nat} {bs : List UInt8} (h : Block w g bs) (k : Nat) (v : UInt8) : Block (w.setCell ⟨g,k,none⟩ (bv v)) g (bs.set k v) := by
 have h1 := heap_setCell_same _ g k _ _ (bv v) h
 unfold Block
 rw [h1]
 simp only [List.setIfInBounds_toArray,List.map_set]
def zeros (n : Nat) : Array Value := ((List.replicate n (0 : UInt8)).map bv).toArray
theorem info : (Tryz.prog.info? 5).map (fun i => (i.zero,i.size,i.bytes)) = some (some (.int .u8 0),1,1) := by kernel_rfl
theorem made (n : Nat) : madeCells (Value.int .u8 0).cells (n * 1) = zeros n := by
 apply Array.ext_getElem?
 intro j
 rw [Nat.mul_one]
 by_cases hj : j < n
 ·
  unfold madeCells zeros
  rw [Array.getElem?_map,Array.getElem?_range,if_pos hj,List.getElem?_toArray,List.getElem?_map,List.getElem?_replicate,if_pos hj]
  simp only [Option.map_some]
  rw [show (Value.int .u8 0).cells.size = 1 from rfl,Nat.mod_one]
  rfl
 ·
  rw [Array.getElem?_eq_none (by rw [size_madeCells]; omega),Array.getElem?_eq_none]
  unfold zeros
  rw [List.size_toArray,List.length_map,List.length_replicate]
  omega
theorem make (n : Nat) (hn : n ≤ 140737488355328) (u : World) : (Instr.makeSlice 59 (.int .i64 (n : Int)) (.int .i64 (n : Int))).run Tryz.prog u =
  .ok (.slice (some ⟨u.heap.size,0,none⟩) n n) (u.alloc (.cells (zeros n) 5)) := by
 obtain ⟨i0,hi,hz0,hz1,hz2⟩ := info_parts info
 have h := run_make (P := Tryz.prog) u 59 5 i0 (.int .u8 0) Tryz.underlying59 hi hz0 .i64 .i64 (n : Int) (n : Int) (by omega) (Int.le_refl _) (by rw [hz2]; omega) (by omega)
 rw [hz1,Int.toNat_natCast,made] at h
 exact h
theorem block_made (u : World) (n : Nat) : Block (u.alloc (.cells (zeros n) 5)) u.heap.size (List.replicate n 0) := heap_alloc_new u _
theorem sizeZ : (Tryz.prog.info? 5).map (·.size) = some 1 := by kernel_rfl
theorem copy (u : World) (g o : Nat) (hd ts : List UInt8) (dCap : Nat) (ao : Option Addr) (n cap : Nat) (rs : List UInt8) (hb : Block u g (hd ++ List.replicate n 0 ++ ts)) (ho : o = hd.length) (hn : n = rs.length) (hs : Seg u ao rs) (da : Option Addr) (hda : 0 < n → da = some ⟨g,o,none⟩) :
  ∃ u',(Builtin.copy_ #[59,59] 3 #[.slice da (n + ts.length) dCap,.slice ao n cap]).run Tryz.prog u = .ok (goInt n) u' ∧ Block u' g (hd ++ rs ++ ts) ∧ (∀ B w0,Below B w0 u → B ≤ g → Below B w0 u') ∧ u'.heap.size = u.heap.size := by
 obtain ⟨i0,hi,hiK⟩ := Option.map_eq_some_iff.1 sizeZ
 have hmin : Nat.min n (n + ts.length) = n := Nat.min_eq_left (by omega)
 by_cases h0 : n = 0
 ·
  subst h0
  have e : rs = [] := List.length_eq_zero_iff.1 hn.symm
  subst e
  refine ⟨u,?_,by simpa using hb,fun _ _ h _ => h,rfl⟩
  have hl : ∀ (x : Addr),(loadCells x 0).run Tryz.prog u = .ok #[] u := fun x => by simpa using run_loadCells_list (P := Tryz.prog) u x [] (by simp)
  cases ao <;> cases da <;> simp [Builtin.copy_,run_underlying Tryz.underlying59,Builtin.lenOf,Builtin.firstCells,sizeOf,typeInfo,hi,storeCells,hl]
 ·
  obtain rfl := hda (by omega)
  rcases hs with e | ⟨b,off,rfl,hc⟩
  ·
   rw [e] at hn
   exact absurd hn h0
  ·
   have hl := run_loadCells_list (P := Tryz.prog) u ⟨b,off,none⟩ (rs.map bv) (fun j v hv => news_of hc j v hv)
   have hst := run_storeCells_at Tryz.prog g o 5 (rs.map bv) 0 _ u hb (by
    simp
    omega) (one_cell rs)
   have e : (((hd ++ List.replicate n (0 : UInt8) ++ ts).map bv).toArray.toList.take (o + 0) ++ rs.map bv ++ ((hd ++ List.replicate n (0 : UInt8) ++ ts).map bv).toArray.toList.drop (o + 0 + (rs.map bv).length)) = (hd ++ rs ++ ts).map bv := by
    rw [List.toList_toArray,Nat.add_zero,List.length_map,← hn,ho]
    simp only [List.map_append,List.append_assoc]
    have e2 : (hd.map bv ++ ((List.replicate n (0 : UInt8)).map bv ++ ts.map bv)).drop (hd.length + n) = ts.map bv := by
     rw [← List.append_assoc]
     exact List.drop_left' (by simp)
    rw [List.take_left' (by simp),e2]
   rw [e] at hst
   refine ⟨u.setRow g ((hd ++ rs ++ ts).map bv).toArray,?_,setRow_heap u g _ _ 5 _ hb,fun B w0 h hB => below_setRow h hB _,by simp [World.setRow]⟩
   rw [List.length_map,← hn] at hl
   simp [Builtin.copy_,run_underlying Tryz.underlying59,Builtin.lenOf,Builtin.firstCells,sizeOf,typeInfo,hi,hiK,hmin,hl,hst]
end Go.Proofs.YtmhmajoghbgcfaaGreatDoor.By
namespace Go.Proofs.YtmhmajoghbgcfaaGreatDoor
open Go.RowKit
open Mem Pk
theorem zz_lib (n : Int) : zz n = Lib.zigzag n := by
 unfold zz Lib.zigzag
 split <;> split <;> omega
theorem pack_folded (n : Int) (hn : Fit n) (w : World) : Calls Tryz.prog 176 #[.int .i64 n] w fun e w' => e = .returned (.int .u64 (zz n : Int)) ∧ w' = w := by
 unfold Fit at hn
 by_cases h : n < 0
 ·
  have hz := Lib.zigzag_neg hn.1 h
  rw [← zz_lib] at hz
  have hm : ¬ IntKind.u64.signed = true := by decide
  go_enter Tryz.func176,Tryz.ntmps176
  go_wp2
  go_ret
  exact ⟨rfl,rfl⟩
 ·
  have hz : (zz n : Int) = n * 2 := by
   unfold zz
   rw [if_neg h]
   omega
  rw [hz]
  go_enter Tryz.func176,Tryz.ntmps176
  go_wp2
  go_ret
  exact ⟨rfl,rfl⟩
theorem vbF_len_low {f u : Nat} (h : u < 128) : (vbF (f + 1) u).length = 1 := by rw [vbF_low h]; rfl
theorem vbF_len_high {f u : Nat} (h : ¬ u < 128) : (vbF (f + 1) u).length = 1 + (vbF f (u / 128)).length := by rw [vbF_high h,List.length_cons]; omega
theorem pack_width (u : Nat) (hu : u < 18446744073709551616) (w : World) : Calls Tryz.prog 177 #[.int .u64 (u : Int)] w fun e w' => e = .returned (.int .i64 (wd u : Int)) ∧ w' = w := by
 have HU := Lib.hid hu
 clear hu
 go_enter Tryz.func177,Tryz.ntmps177
 go_wp2
 go_loop [0,3] (fun x k => ∃ (c v : Nat),x = .int .u64 (v : Int) ∧ k = .int .i64 (c : Int) ∧ c ≤ 10 ∧ 1 ≤ c ∧ v < 18446744073709551616 ∧ Hid (v < lim c) ∧ Hid (c + (vbF (11 - c) v).length = wd u + 1)) (fun _ k => (10 - intOf k).toNat)
 case atStart => exact ⟨1,u,rfl,rfl,by omega,by omega,HU.out,Lib.hid (by rw [lim_one]; exact HU.out),Lib.hid (by unfold wd vb; simp; omega)⟩
 case round =>
  obtain ⟨c,v,rfl,rfl,hc,hc1,hv,HV,HL⟩ := hrel
  have HVn := Lib.hid hv
  clear hv
  by_cases hlt : v < 128
  ·
   have HE : Hid ((c : Int) = (wd u : Int)) := Lib.hid (by
    have h := HL.out
    rw [show 11 - c = (10 - c) + 1 by omega,vbF_len_low hlt] at h
    omega)
   have a1 : ¬ (128 : Int) ≤ (v : Int) := by omega
   go_wp2
   go_ret
   exact ⟨ret_int HE.out,rfl⟩
  ·
   have hi9 : c < 10 := by
    by_cases h9 : c < 10
    · exact h9
    ·
     obtain rfl : c = 10 := by omega
     have := HV.out
     rw [lim_ten] at this
     omega
   have HV2 : Hid (v / 128 < lim (c + 1)) := Lib.hid (by
    have := HV.out
    rw [lim_step hi9] at this
    omega)
   have HL2 : Hid (c + 1 + (vbF (11 - (c + 1)) (v / 128)).length = wd u + 1) := Lib.hid (by
    have h := HL.out
    rw [show 11 - c = (11 - (c + 1)) + 1 by omega,vbF_len_high hlt] at h
    omega)
   have a1 : (128 : Int) ≤ (v : Int) := by omega
   go_wp2
   go_round
   case rel => exact ⟨c + 1,v / 128,by simp,by go_num,by omega,by omega,(by have := HVn.out; omega),HV2,HL2⟩
   case measure => simp [intOf]; omega
theorem and127 (v : Nat) (hv : v < 18446744073709551616) : bits .and .u64 (v : Int) 127 = ((v % 128 : Nat) : Int) := by
 have h := u64_and_nat v 127 hv (by omega)
 have e : v &&& 127 = v % 128 := Nat.and_two_pow_sub_one_eq_mod v 7
 rw [e] at h
 exact h
theorem set_at {bs pre : List UInt8} {L m i : Nat} {x : UInt8} (hm : m = bs.length) (hi : pre.length = i) : (bs ++ pre ++ List.replicate (L + 1) 0).set (m + i) x = bs ++ (pre ++ [x]) ++ List.replicate L 0 := by
 rw [List.set_append_right _ _ (by rw [List.length_append]; omega),List.length_append,← hm,hi,Nat.sub_self,List.replicate_succ,List.set_cons_zero]
 simp
set_option maxHeartbeats 2000000 in
theorem pack_num (bs : List UInt8) (n : Int) (hn : Fit n) (ao : Option Addr) (m cap : Nat) (w : World) (hL : By.Ls w ao m cap bs) (hm : m ≤ 1000000000000) :
  Calls Tryz.prog 147 #[.slice ao m cap,.int .i64 n] w fun e w' => (∃ g,e = .returned (.slice (some ⟨g,0,none⟩) (m + wd (zz n)) (m + wd (zz n))) ∧ w.heap.size ≤ g ∧ By.Block w' g (bs ++ vb (zz n))) ∧ Below w.heap.size w w' := by
 have HF := Lib.hid hn
 have HL := Lib.hid hL
 have HLen := Lib.hid hL.len
 obtain ⟨u,hu⟩ : ∃ u,zz n = u := ⟨_,rfl⟩
 have hul : u < 18446744073709551616 := hu ▸ zz_lt hn
 have HU := Lib.hid hu
 obtain ⟨d,hd⟩ : ∃ d,wd u = d := ⟨_,rfl⟩
 have hd10 : d ≤ 10 := by rw [← hd]; exact vbF_len 10 u
 have hd1 : 1 ≤ d := by rw [← hd]; exact vbF_pos
 have HD := Lib.hid hd
 have hmk := By.make (m + d) (by omega)
 rw [show ((m + d : Nat) : Int) = (m : Int) + (d : Int) from by omega] at hmk
 have hb0 := By.block_made w (m + d)
 rw [← List.replicate_append_replicate] at hb0
 have hB1 := (Below.refl w.heap.size w).alloc (Nat.le_refl _) (.cells (By.zeros (m + d)) 5)
 obtain ⟨W1,hcp,hblk,hbel,hsz⟩ := By.copy (w.alloc (.cells (By.zeros (m + d)) 5)) w.heap.size 0 [] (List.replicate d 0) (m + d) ao m cap bs (by simpa using hb0) rfl hL.len (hL.below hB1).seg (some ⟨w.heap.size,0,none⟩) (fun _ => rfl)
 rw [List.length_replicate] at hcp
 rw [List.nil_append] at hblk
 have HB1 := Lib.hid (hbel _ _ hB1 (Nat.le_refl _))
 have HBk := Lib.hid hblk
 have hcap := hL.reach
 have HUl := Lib.hid hul
 rw [hu,hd]
 clear hL hn hu hd hb0 hblk hbel hsz hB1 hul
 go_enter Tryz.func147,Tryz.ntmps147
 go_wp2_with fail
 refine (pack_folded n HF.out w).mono ?_
 rintro e w2 ⟨rfl,rfl⟩
 rename World => w
 rw [HU.out]
 go_wp2_with fail
 refine (pack_width u HUl.out w).mono ?_
 rintro e w3 ⟨rfl,rfl⟩
 rename World => w
 rw [HD.out]
 go_wp2_with fail
 clear hmk hcp
 go_loopw [5,7] (fun x k wr => ∃ (i v L : Nat) (pre : List UInt8),x = .int .u64 (v : Int) ∧ k = .int .i64 ((m : Int) + (i : Int)) ∧ i + L + 1 = d ∧ Hid (v < 18446744073709551616 ∧ v < lim (i + 1)) ∧ Hid (pre.length = i) ∧ Hid (vb u = pre ++ vbF (10 - i) v) ∧ Hid ((vbF (10 - i) v).length = L + 1) ∧ Hid (By.Block wr w.heap.size (bs ++ pre ++ List.replicate (L + 1) 0)) ∧ Hid (Below w.heap.size w wr)) (fun _ k _ => m + d - (intOf k).toNat)
 case atStart => exact ⟨0,u,d - 1,[],rfl,by go_num,by omega,Lib.hid ⟨HUl.out,by rw [lim_one]; exact HUl.out⟩,Lib.hid rfl,Lib.hid rfl,Lib.hid (by have h := HD.out; unfold wd vb at h; rw [Nat.sub_zero,h]; omega),Lib.hid (by rw [List.append_nil,show d - 1 + 1 = d by omega]; exact HBk.out),HB1⟩
 case round =>
  obtain ⟨i,v,L,pre,rfl,rfl,hil,HV,HPl,HVb,HLn,HBl,HB⟩ := hrel
  have hlen9 : m + i < (bs ++ pre ++ List.replicate (L + 1) (0 : UInt8)).length := by
   rw [List.length_append,List.length_append,List.length_replicate,← HLen.out,HPl.out]
   omega
  have hc := HBl.out.row (m + i) hlen9
  have hf := HBl.out.frozen (m + i)
  obtain ⟨z,hz⟩ : ∃ z,By.bv (bs ++ pre ++ List.replicate (L + 1) (0 : UInt8))[m + i] = z := ⟨_,rfl⟩
  rw [hz] at hc
  clear hz hlen9
  by_cases hL0 : L = 0
  ·
   subst hL0
   have HS : Hid (v < 128) := Lib.hid (by
    by_cases hs : v < 128
    · exact hs
    ·
     have h := HLn.out
     rw [show 10 - i = (9 - i) + 1 by omega,vbF_len_high hs] at h
     by_cases h9 : i = 9
     ·
      have := HV.out.2
      rw [h9,lim_ten] at this
      omega
     ·
      have := vbF_pos (f := 8 - i) (u := v / 128)
      rw [show 8 - i + 1 = 9 - i by omega] at this
      omega)
   have HW8 : Hid (IntKind.u8.wrap (v : Int) = (v : Int)) := Lib.hid (by
    rw [IntKind.wrap_u8]
    have := HS.out
    omega)
   have hw8 := HW8.out
   have hdi : (m : Int) + (d : Int) - 1 = (m : Int) + (i : Int) := by omega
   have a1 : ¬ (m : Int) + (i : Int) < (m : Int) + (d : Int) - 1 := by omega
   go_wp2_with fail
   go_ret
   refine ⟨⟨w.heap.size,rfl,Nat.le_refl _,?_⟩,HB.out.setCell (p := ⟨w.heap.size,m + i,none⟩) (Nat.le_refl _) _⟩
   have h := HBl.out.store (m + i) (UInt8.ofNat v)
   rw [set_at HLen.out HPl.out] at h
   have e1 : By.bv (UInt8.ofNat v) = .int .u8 (v : Int) := by
    unfold By.bv
    rw [byte_nat (by have := HS.out; omega)]
   rw [e1] at h
   have e2 : vb u = pre ++ [UInt8.ofNat v] := by
    rw [HVb.out,show 10 - i = (9 - i) + 1 by omega,vbF_low HS.out]
   rw [e2]
   simpa using h
  ·
   have HS : Hid (¬ v < 128) := Lib.hid (fun hs => by
    have h := HLn.out
    rw [show 10 - i = (9 - i) + 1 by omega,vbF_len_low hs] at h
    omega)
   obtain ⟨r,hr⟩ : ∃ r,v % 128 = r := ⟨_,rfl⟩
   obtain ⟨q,hq⟩ : ∃ q,v / 128 = q := ⟨_,rfl⟩
   have hr128 : r < 128 := by omega
   have hand := and127 v HV.out.1
   rw [hr] at hand
   have hw8 : IntKind.u8.wrap (r : Int) = (r : Int) := by
    rw [IntKind.wrap_u8]
    omega
   have hor : bits .or .u8 (r : Int) 128 = (r : Int) + 128 := u8_or128_right _ (by omega) (by omega)
   have hdiv : (v : Int) / 128 = (q : Int) := by omega
   have HR := Lib.hid hr
   have HQ := Lib.hid hq
   obtain ⟨K,rfl⟩ : ∃ K,L = K + 1 := ⟨L - 1,by omega⟩
   have HV2 : Hid (q < 18446744073709551616 ∧ q < lim (i + 1 + 1)) := Lib.hid (by
    have h1 := HV.out.1
    have h2 := HV.out.2
    rw [lim_step (by omega)] at h2
    omega)
   have HVb2 : Hid (vb u = (pre ++ [UInt8.ofNat (r + 128)]) ++ vbF (10 - (i + 1)) q) := Lib.hid (by
    rw [HVb.out,show 10 - i = (10 - (i + 1)) + 1 by omega,vbF_high HS.out,HR.out,HQ.out,List.append_assoc]
    rfl)
   have HLn2 : Hid ((vbF (10 - (i + 1)) q).length = K + 1) := Lib.hid (by
    have h := HLn.out
    rw [show 10 - i = (10 - (i + 1)) + 1 by omega,vbF_len_high HS.out,HQ.out] at h
    omega)
   have a1 : (m : Int) + (i : Int) < (m : Int) + (d : Int) - 1 := by omega
   clear hr hq
   go_wp2_with fail
   go_roundw
   case rel =>
    refine ⟨i + 1,q,K,pre ++ [UInt8.ofNat (r + 128)],rfl,by go_num,by omega,HV2,Lib.hid (by rw [List.length_append,HPl.out]; rfl),HVb2,HLn2,Lib.hid ?_,Lib.hid (HB.out.setCell (p := ⟨w.heap.size,m + i,none⟩) (Nat.le_refl _) _)⟩
    have h := HBl.out.store (m + i) (UInt8.ofNat (r + 128))
    rw [set_at HLen.out HPl.out] at h
    have e1 : By.bv (UInt8.ofNat (r + 128)) = .int .u8 ((r : Int) + 128) := by
     unfold By.bv
     rw [byte_nat (by omega)]
     simp
    rw [e1] at h
    exact h
   case measure => simp [intOf]; omega
end Go.Proofs.YtmhmajoghbgcfaaGreatDoor
namespace Go.Proofs.YtmhmajoghbgcfaaGreatDoor
open Go.RowKit
open Mem Pk
theorem By.copyS (u : World) (g o : Nat) (hd ts : List UInt8) (dCap : Nat) (s : ByteArray) (n : Nat) (hb : By.Block u g (hd ++ List.replicate n 0 ++ ts)) (ho : o = hd.length) (hn : n = s.size) (da : Option Addr) (hda : 0 < n → da = some ⟨g,o,none⟩) :
  ∃ u',(Builtin.copy_ #[59,9] 3 #[.slice da (n + ts.length) dCap,.string s]).run Tryz.prog u = .ok (goInt n) u' ∧ By.Block u' g (hd ++ txt s ++ ts) ∧ (∀ B w0,Below B w0 u → B ≤ g → Below B w0 u') ∧ u'.heap.size = u.heap.size := by
 obtain ⟨i0,hi,hiK⟩ := Option.map_eq_some_iff.1 By.sizeZ
 have hmin : Nat.min n (n + ts.length) = n := Nat.min_eq_left (by omega)
 have hcells : List.take n (List.map (fun b : UInt8 => Value.int .u8 (b.toNat : Int)) s.data.toList) = (txt s).map By.bv := by
  rw [List.take_of_length_le (by rw [List.length_map]; show (txt s).length ≤ n; rw [txt_len]; omega)]
  rfl
 by_cases h0 : n = 0
 ·
  subst h0
  have e : txt s = [] := List.length_eq_zero_iff.1 (by rw [txt_len]; exact hn.symm)
  refine ⟨u,?_,by rw [e]; simpa using hb,fun _ _ h _ => h,rfl⟩
  cases da <;> simp [Builtin.copy_,run_underlying Tryz.underlying59,Builtin.lenOf,Builtin.firstCells,sizeOf,typeInfo,hi,storeCells,← hn]
 ·
  obtain rfl := hda (by omega)
  have hst := run_storeCells_at Tryz.prog g o 5 ((txt s).map By.bv) 0 _ u hb (by
   simp [txt_len]
   omega) (By.one_cell (txt s))
  have e : (((hd ++ List.replicate n (0 : UInt8) ++ ts).map By.bv).toArray.toList.take (o + 0) ++ (txt s).map By.bv ++ ((hd ++ List.replicate n (0 : UInt8) ++ ts).map By.bv).toArray.toList.drop (o + 0 + ((txt s).map By.bv).length)) = (hd ++ txt s ++ ts).map By.bv := by
   rw [List.toList_toArray,Nat.add_zero,List.length_map,txt_len,← hn,ho]
   simp only [List.map_append,List.append_assoc]
   have e2 : (hd.map By.bv ++ ((List.replicate n (0 : UInt8)).map By.bv ++ ts.map By.bv)).drop (hd.length + n) = ts.map By.bv := by
    rw [← List.append_assoc]
    exact List.drop_left' (by simp)
   rw [List.take_left' (by simp),e2]
  rw [e] at hst
  refine ⟨u.setRow g ((hd ++ txt s ++ ts).map By.bv).toArray,?_,setRow_heap u g _ _ 5 _ hb,fun B w0 h hB => below_setRow h hB _,by simp [World.setRow]⟩
  obtain ⟨R,hR⟩ : ∃ R,((hd ++ txt s ++ ts).map By.bv).toArray = R := ⟨_,rfl⟩
  rw [hR] at hst ⊢
  simp [Builtin.copy_,run_underlying Tryz.underlying59,Builtin.lenOf,Builtin.firstCells,sizeOf,typeInfo,hi,hmin,← hn,hcells,hst]
set_option maxHeartbeats 2000000 in
theorem pack_text (bs : List UInt8) (s : ByteArray) (hs : s.size ≤ 1000000000000) (ao : Option Addr) (m cap : Nat) (w : World) (hL : By.Ls w ao m cap bs) (hm : m ≤ 1000000000000) :
  Calls Tryz.prog 149 #[.slice ao m cap,.string s] w fun e w' => (∃ g N,e = .returned (.slice (some ⟨g,0,none⟩) N N) ∧ N = (bs ++ vb (zz s.size) ++ txt s).length ∧ w.heap.size ≤ g ∧ By.Block w' g (bs ++ vb (zz s.size) ++ txt s)) ∧ Below w.heap.size w w' := by
 have HL := Lib.hid hL
 have HLen := Lib.hid hL.len
 have hcap := hL.reach
 obtain ⟨z,hz⟩ : ∃ z,s.size = z := ⟨_,rfl⟩
 have HZ := Lib.hid hz
 rw [hz] at hs
 clear hL
 go_enter Tryz.func149,Tryz.ntmps149
 go_wp2_with fail
 refine (pack_num bs (z : Int) ⟨by omega,by omega⟩ ao m cap w HL.out hm).mono ?_
 rintro e w1 ⟨⟨g,rfl,hg,hblk⟩,b1⟩
 obtain ⟨d,hd⟩ : ∃ d,wd (zz (z : Int)) = d := ⟨_,rfl⟩
 have hd10 : d ≤ 10 := by rw [← hd]; exact vbF_len 10 _
 have HD := Lib.hid hd
 rw [hd]
 have HHl : Hid ((bs ++ vb (zz (z : Int))).length = m + d) := Lib.hid (by
  rw [List.length_append,← HLen.out,← hd]
  rfl)
 have HBk := Lib.hid hblk
 have HB1 := Lib.hid b1
 have hs1 := b1.size
 clear hd hblk b1
 obtain ⟨h,hh⟩ : ∃ h,m + d = h := ⟨_,rfl⟩
 rw [hh]
 have hhb : h ≤ 1000000000010 := by omega
 rw [hh] at HHl
 clear hh
 have hmk := By.make (h + z) (by omega)
 rw [show ((h + z : Nat) : Int) = (h : Int) + (z : Int) from by omega] at hmk
 have hb0 := By.block_made w1 (h + z)
 rw [← List.replicate_append_replicate] at hb0
 have hB2 := (Below.refl w1.heap.size w1).alloc (Nat.le_refl _) (.cells (By.zeros (h + z)) 5)
 have hl1 : By.Ls w1 (some ⟨g,0,none⟩) h h (bs ++ vb (zz (z : Int))) := by
  have := HBk.out.ls (by rw [HHl.out]; omega)
  rw [HHl.out] at this
  exact this
 obtain ⟨W2,hcp,hblk2,hbel2,hsz2⟩ := By.copy (w1.alloc (.cells (By.zeros (h + z)) 5)) w1.heap.size 0 [] (List.replicate z 0) (h + z) (some ⟨g,0,none⟩) h h (bs ++ vb (zz (z : Int))) (by simpa using hb0) rfl HHl.out.symm (hl1.below hB2).seg (some ⟨w1.heap.size,0,none⟩) (fun _ => rfl)
 rw [List.length_replicate] at hcp
 rw [List.nil_append] at hblk2
 have hbw2 := hbel2 _ _ hB2 (Nat.le_refl _)
 have hlo : By.Ls W2 (some ⟨w1.heap.size,0,none⟩) (h + z) (h + z) (bs ++ vb (zz (z : Int)) ++ List.replicate z 0) := by
  have := hblk2.ls (by rw [List.length_append,HHl.out,List.length_replicate]; omega)
  rw [List.length_append,HHl.out,List.length_replicate] at this
  exact this
 obtain ⟨ao2,cap2,hsl,_,had⟩ := hlo.from h (by omega)
 rw [show h + z - h = z by omega] at hsl
 obtain ⟨W3,hcp3,hblk3,hbel3,hsz3⟩ := By.copyS W2 w1.heap.size h (bs ++ vb (zz (z : Int))) [] cap2 s z (by simpa using hblk2) HHl.out.symm HZ.out.symm ao2 (fun hp => by
  have := had (by omega) _ _ rfl
  rw [Nat.zero_add] at this
  exact this)
 rw [List.length_nil,Nat.add_zero] at hcp3
 rw [List.append_nil] at hblk3
 have HB3 := Lib.hid (hbel3 _ _ (bchain HB1.out hbw2) hs1)
 have HBk3 := Lib.hid hblk3
 clear hblk3 hbel3 hsz3 hblk2 hbel2 hsz2 hb0 hB2 hl1 hlo had hbw2
 go_wp2_with fail
 go_ret
 refine ⟨⟨w1.heap.size,h + z,rfl,?_,hs1,?_⟩,HB3.out⟩
 · rw [List.length_append,txt_len,HZ.out,HHl.out]
 ·
  rw [HZ.out]
  exact HBk3.out
end Go.Proofs.YtmhmajoghbgcfaaGreatDoor
namespace Go.Proofs.YtmhmajoghbgcfaaGreatDoor
open Go.RowKit
open Mem Pk
theorem pack_unfolded (u : Nat) (hu : u < 18446744073709551616) (w : World) : Calls Tryz.prog 193 #[.int .u64 (u : Int)] w fun e w' => e = .returned (.int .i64 (uz u)) ∧ w' = w := by
 obtain ⟨q,hq⟩ : ∃ q,u / 2 = q := ⟨_,rfl⟩
 have hqb : q ≤ 9223372036854775807 := by omega
 have hdiv : (u : Int) / 2 = (q : Int) := by omega
 have hand := Lib.u64_and1 (u : Int) (by omega) (by omega)
 by_cases h1 : u % 2 = 1
 ·
  have hm : (u : Int) % 2 = 1 := by omega
  rw [hm] at hand
  have hz : uz u = -(q : Int) - 1 := by
   unfold uz
   rw [if_pos h1,hq]
  have hnot := Lib.i64_not q (by omega)
  rw [hz]
  clear hq hu h1 hm hz
  go_enter Tryz.func193,Tryz.ntmps193
  go_wp2
  go_ret
  exact ⟨rfl,rfl⟩
 ·
  have hm : (u : Int) % 2 = 0 := by omega
  rw [hm] at hand
  have hz : uz u = (q : Int) := by
   unfold uz
   rw [if_neg h1,hq]
  rw [hz]
  clear hq hu h1 hm hz
  go_enter Tryz.func193,Tryz.ntmps193
  go_wp2
  go_ret
  exact ⟨rfl,rfl⟩
def numE : Int ⊕ (Nat × Nat) → Ending
 | .inl e => .returned (.tuple #[.int .i64 0,.int .i64 0,.int .i64 e])
 | .inr p => .returned (.tuple #[.int .i64 (uz p.1),.int .i64 (p.2 : Int),.int .i64 0])
def pw (k : Nat) : Nat := 128 ^ k
set_option maxHeartbeats 4000000 in
theorem pack_number (bs : List UInt8) (ao : Option Addr) (n cap : Nat) (w : World) (hL : By.Ls w ao n cap bs) :
  Calls Tryz.prog 174 #[.slice ao n cap] w fun e w' => e = numE (num bs) ∧ w' = w := by
 have HL := Lib.hid hL
 have HLen := Lib.hid hL.len
 have hfit := hL.fits
 have hcap := hL.reach
 clear hL
 go_enter Tryz.func174,Tryz.ntmps174
 go_wp2
 go_loop [5,6,7,10] (fun x _ _ i => ∃ (k u : Nat),x = .int .u64 (u : Int) ∧ i = .int .i64 (k : Int) ∧ k ≤ 9 ∧ k ≤ n ∧ Hid (u < pw k) ∧ Hid (rd k u (bs.drop k) = num bs)) (fun _ _ _ i => n - (intOf i).toNat)
 case atStart => exact ⟨0,0,rfl,rfl,by omega,by omega,Lib.hid (by decide),Lib.hid rfl⟩
 case round =>
  obtain ⟨k,u,rfl,rfl,hk9,hkn,HU,HR⟩ := hrel
  by_cases hlt : k < n
  ·
   have hkl : k < bs.length := HLen.out ▸ hlt
   obtain ⟨b,off,rfl⟩ := HL.out.at (by omega)
   have hc := HL.out.row k hkl
   obtain ⟨x,hx⟩ : ∃ x,bs[k] = x := ⟨_,rfl⟩
   have HDr : Hid (bs.drop k = x :: bs.drop (k + 1)) := Lib.hid (by rw [List.drop_eq_getElem_cons hkl,hx])
   rw [hx] at hc
   have hx256 : x.toNat ≤ 255 := by
    have := UInt8.toNat_lt x
    omega
   obtain ⟨c,hcx⟩ : ∃ c,x.toNat = c := ⟨_,rfl⟩
   unfold By.bv at hc
   rw [hcx] at hc hx256
   have HCx := Lib.hid hcx
   have hand := u8_and127 (c : Int) (by omega) (by omega)
   obtain ⟨r,hr⟩ : ∃ r,c % 128 = r := ⟨_,rfl⟩
   have hr128 : r ≤ 127 := by omega
   rw [show (c : Int) % 128 = (r : Int) by omega] at hand
   have HRc := Lib.hid hr
   clear hx hkl hcx hr
   rcases (by omega : k = 0 ∨ k = 1 ∨ k = 2 ∨ k = 3 ∨ k = 4 ∨ k = 5 ∨ k = 6 ∨ k = 7 ∨ k = 8 ∨ k = 9) with rfl | rfl | rfl | rfl | rfl | rfl | rfl | rfl | rfl | rfl
   ·
    have hub : u < 1 := HU.out
    obtain ⟨S,hS⟩ : ∃ S,u + r * 1 = S := ⟨_,rfl⟩
    have HSm := Lib.hid hS
    have HUb := Lib.hid hub
    rw [Nat.add_zero] at hc
    have hSb : S < 128 := by omega
    have HSb := Lib.hid hSb
    have hor : bits .or .u64 (u : Int) ((r : Int)) = (S : Int) := by
     rw [u64_orv0 _ _ (by omega) (by omega) (by omega) (by omega) (by omega)]
     omega
    by_cases hm : 128 ≤ c
    ·
     have HN : Hid (rd 1 S (bs.drop 1) = num bs) := Lib.hid (by
      have h := HR.out
      rw [HDr.out,rd_more (by omega) (by rw [HCx.out]; exact hm),HCx.out,HRc.out] at h
      rw [← HSm.out]
      exact h)
     have HPw : Hid (S < pw 1) := Lib.hid (by
      rw [show pw 1 = 128 by decide]
      exact HSb.out)
     have a1 : (128 : Int) ≤ (c : Int) := by omega
     clear hub hS hSb
     go_wp2
     go_round
     case rel => exact ⟨1,S,rfl,rfl,by omega,by omega,HPw,HN⟩
     case measure => simp [intOf]; omega
    have hrc : r = c := by
     have := HRc.out
     omega
    have a2 : ¬ (128 : Int) ≤ (c : Int) := by omega
    by_cases hc0 : c = 0
    ·
     have q0 : ((c : Int) == 0) = true := beq_iff_eq.2 (by omega)
     have HE : Hid (num bs = .inr (S,1)) := Lib.hid (by
      rw [← HR.out,HDr.out,rd_last (by rw [HCx.out]; omega) (by rw [HCx.out]; omega) (by rw [HCx.out]; omega),HCx.out,← HSm.out,hrc])
     clear hub hS hSb hrc hc0
     go_wp2_with fail
     refine (pack_unfolded S (Nat.lt_of_lt_of_le HSb.out (by omega)) w).mono ?_
     rintro e w1 ⟨rfl,rfl⟩
     rename World => w
     go_wp2_with fail
     go_ret3
     exact ⟨by rw [HE.out]; rfl,rfl⟩
    have q0 : ((c : Int) == 0) = false := beq_eq_false_iff_ne.2 (by omega)
    have HE : Hid (num bs = .inr (S,1)) := Lib.hid (by
     rw [← HR.out,HDr.out,rd_last (by rw [HCx.out]; omega) (by rw [HCx.out]; omega) (by rw [HCx.out]; omega),HCx.out,← HSm.out,hrc])
    clear hub hS hSb hrc hc0
    go_wp2_with fail
    refine (pack_unfolded S (Nat.lt_of_lt_of_le HSb.out (by omega)) w).mono ?_
    rintro e w1 ⟨rfl,rfl⟩
    rename World => w
    go_wp2_with fail
    go_ret3
    exact ⟨by rw [HE.out]; rfl,rfl⟩
   ·
    have hub : u < 128 := HU.out
    obtain ⟨S,hS⟩ : ∃ S,u + r * 128 = S := ⟨_,rfl⟩
    have HSm := Lib.hid hS
    have HUb := Lib.hid hub
    have hSb : S < 16384 := by omega
    have HSb := Lib.hid hSb
    have hor : bits .or .u64 (u : Int) ((r : Int) * 128) = (S : Int) := by
     rw [u64_orv7 _ _ (by omega) (by omega) (by omega) (by omega) (by omega)]
     omega
    by_cases hm : 128 ≤ c
    ·
     have HN : Hid (rd 2 S (bs.drop 2) = num bs) := Lib.hid (by
      have h := HR.out
      rw [HDr.out,rd_more (by omega) (by rw [HCx.out]; exact hm),HCx.out,HRc.out] at h
      rw [← HSm.out]
      exact h)
     have HPw : Hid (S < pw 2) := Lib.hid (by
      rw [show pw 2 = 16384 by decide]
      exact HSb.out)
     have a1 : (128 : Int) ≤ (c : Int) := by omega
     clear hub hS hSb
     go_wp2
     go_round
     case rel => exact ⟨2,S,rfl,rfl,by omega,by omega,HPw,HN⟩
     case measure => simp [intOf]; omega
    have hrc : r = c := by
     have := HRc.out
     omega
    have a2 : ¬ (128 : Int) ≤ (c : Int) := by omega
    by_cases hc0 : c = 0
    ·
     have HE : Hid (num bs = .inl 4) := Lib.hid (by
      rw [← HR.out,HDr.out,rd_zero (by rw [HCx.out]; exact hc0) (by omega)])
     have q0 : ((c : Int) == 0) = true := beq_iff_eq.2 (by omega)
     clear hub hS hSb hrc hc0
     go_wp2
     go_ret3
     exact ⟨by rw [HE.out]; rfl,rfl⟩
    have q0 : ((c : Int) == 0) = false := beq_eq_false_iff_ne.2 (by omega)
    have HE : Hid (num bs = .inr (S,2)) := Lib.hid (by
     rw [← HR.out,HDr.out,rd_last (by rw [HCx.out]; omega) (by rw [HCx.out]; omega) (by rw [HCx.out]; omega),HCx.out,← HSm.out,hrc])
    clear hub hS hSb hrc hc0
    go_wp2_with fail
    refine (pack_unfolded S (Nat.lt_of_lt_of_le HSb.out (by omega)) w).mono ?_
    rintro e w1 ⟨rfl,rfl⟩
    rename World => w
    go_wp2_with fail
    go_ret3
    exact ⟨by rw [HE.out]; rfl,rfl⟩
   ·
    have hub : u < 16384 := HU.out
    obtain ⟨S,hS⟩ : ∃ S,u + r * 16384 = S := ⟨_,rfl⟩
    have HSm := Lib.hid hS
    have HUb := Lib.hid hub
    have hSb : S < 2097152 := by omega
    have HSb := Lib.hid hSb
    have hor : bits .or .u64 (u : Int) ((r : Int) * 16384) = (S : Int) := by
     rw [u64_orv14 _ _ (by omega) (by omega) (by omega) (by omega) (by omega)]
     omega
    by_cases hm : 128 ≤ c
    ·
     have HN : Hid (rd 3 S (bs.drop 3) = num bs) := Lib.hid (by
      have h := HR.out
      rw [HDr.out,rd_more (by omega) (by rw [HCx.out]; exact hm),HCx.out,HRc.out] at h
      rw [← HSm.out]
      exact h)
     have HPw : Hid (S < pw 3) := Lib.hid (by
      rw [show pw 3 = 2097152 by decide]
      exact HSb.out)
     have a1 : (128 : Int) ≤ (c : Int) := by omega
     clear hub hS hSb
     go_wp2
     go_round
     case rel => exact ⟨3,S,rfl,rfl,by omega,by omega,HPw,HN⟩
     case measure => simp [intOf]; omega
    have hrc : r = c := by
     have := HRc.out
     omega
    have a2 : ¬ (128 : Int) ≤ (c : Int) := by omega
    by_cases hc0 : c = 0
    ·
     have HE : Hid (num bs = .inl 4) := Lib.hid (by
      rw [← HR.out,HDr.out,rd_zero (by rw [HCx.out]; exact hc0) (by omega)])
     have q0 : ((c : Int) == 0) = true := beq_iff_eq.2 (by omega)
     clear hub hS hSb hrc hc0
     go_wp2
     go_ret3
     exact ⟨by rw [HE.out]; rfl,rfl⟩
    have q0 : ((c : Int) == 0) = false := beq_eq_false_iff_ne.2 (by omega)
    have HE : Hid (num bs = .inr (S,3)) := Lib.hid (by
     rw [← HR.out,HDr.out,rd_last (by rw [HCx.out]; omega) (by rw [HCx.out]; omega) (by rw [HCx.out]; omega),HCx.out,← HSm.out,hrc])
    clear hub hS hSb hrc hc0
    go_wp2_with fail
    refine (pack_unfolded S (Nat.lt_of_lt_of_le HSb.out (by omega)) w).mono ?_
    rintro e w1 ⟨rfl,rfl⟩
    rename World => w
    go_wp2_with fail
    go_ret3
    exact ⟨by rw [HE.out]; rfl,rfl⟩
   ·
    have hub : u < 2097152 := HU.out
    obtain ⟨S,hS⟩ : ∃ S,u + r * 2097152 = S := ⟨_,rfl⟩
    have HSm := Lib.hid hS
    have HUb := Lib.hid hub
    have hSb : S < 268435456 := by omega
    have HSb := Lib.hid hSb
    have hor : bits .or .u64 (u : Int) ((r : Int) * 2097152) = (S : Int) := by
     rw [u64_orv21 _ _ (by omega) (by omega) (by omega) (by omega) (by omega)]
     omega
    by_cases hm : 128 ≤ c
    ·
     have HN : Hid (rd 4 S (bs.drop 4) = num bs) := Lib.hid (by
      have h := HR.out
      rw [HDr.out,rd_more (by omega) (by rw [HCx.out]; exact hm),HCx.out,HRc.out] at h
      rw [← HSm.out]
      exact h)
     have HPw : Hid (S < pw 4) := Lib.hid (by
      rw [show pw 4 = 268435456 by decide]
      exact HSb.out)
     have a1 : (128 : Int) ≤ (c : Int) := by omega
     clear hub hS hSb
     go_wp2
     go_round
     case rel => exact ⟨4,S,rfl,rfl,by omega,by omega,HPw,HN⟩
     case measure => simp [intOf]; omega
    have hrc : r = c := by
     have := HRc.out
     omega
    have a2 : ¬ (128 : Int) ≤ (c : Int) := by omega
    by_cases hc0 : c = 0
    ·
     have HE : Hid (num bs = .inl 4) := Lib.hid (by
      rw [← HR.out,HDr.out,rd_zero (by rw [HCx.out]; exact hc0) (by omega)])
     have q0 : ((c : Int) == 0) = true := beq_iff_eq.2 (by omega)
     clear hub hS hSb hrc hc0
     go_wp2
     go_ret3
     exact ⟨by rw [HE.out]; rfl,rfl⟩
    have q0 : ((c : Int) == 0) = false := beq_eq_false_iff_ne.2 (by omega)
    have HE : Hid (num bs = .inr (S,4)) := Lib.hid (by
     rw [← HR.out,HDr.out,rd_last (by rw [HCx.out]; omega) (by rw [HCx.out]; omega) (by rw [HCx.out]; omega),HCx.out,← HSm.out,hrc])
    clear hub hS hSb hrc hc0
    go_wp2_with fail
    refine (pack_unfolded S (Nat.lt_of_lt_of_le HSb.out (by omega)) w).mono ?_
    rintro e w1 ⟨rfl,rfl⟩
    rename World => w
    go_wp2_with fail
    go_ret3
    exact ⟨by rw [HE.out]; rfl,rfl⟩
   ·
    have hub : u < 268435456 := HU.out
    obtain ⟨S,hS⟩ : ∃ S,u + r * 268435456 = S := ⟨_,rfl⟩
    have HSm := Lib.hid hS
    have HUb := Lib.hid hub
    have hSb : S < 34359738368 := by omega
    have HSb := Lib.hid hSb
    have hor : bits .or .u64 (u : Int) ((r : Int) * 268435456) = (S : Int) := by
     rw [u64_orv28 _ _ (by omega) (by omega) (by omega) (by omega) (by omega)]
     omega
    by_cases hm : 128 ≤ c
    ·
     have HN : Hid (rd 5 S (bs.drop 5) = num bs) := Lib.hid (by
      have h := HR.out
      rw [HDr.out,rd_more (by omega) (by rw [HCx.out]; exact hm),HCx.out,HRc.out] at h
      rw [← HSm.out]
      exact h)
     have HPw : Hid (S < pw 5) := Lib.hid (by
      rw [show pw 5 = 34359738368 by decide]
      exact HSb.out)
     have a1 : (128 : Int) ≤ (c : Int) := by omega
     clear hub hS hSb
     go_wp2
     go_round
     case rel => exact ⟨5,S,rfl,rfl,by omega,by omega,HPw,HN⟩
     case measure => simp [intOf]; omega
    have hrc : r = c := by
     have := HRc.out
     omega
    have a2 : ¬ (128 : Int) ≤ (c : Int) := by omega
    by_cases hc0 : c = 0
    ·
     have HE : Hid (num bs = .inl 4) := Lib.hid (by
      rw [← HR.out,HDr.out,rd_zero (by rw [HCx.out]; exact hc0) (by omega)])
     have q0 : ((c : Int) == 0) = true := beq_iff_eq.2 (by omega)
     clear hub hS hSb hrc hc0
     go_wp2
     go_ret3
     exact ⟨by rw [HE.out]; rfl,rfl⟩
    have q0 : ((c : Int) == 0) = false := beq_eq_false_iff_ne.2 (by omega)
    have HE : Hid (num bs = .inr (S,5)) := Lib.hid (by
     rw [← HR.out,HDr.out,rd_last (by rw [HCx.out]; omega) (by rw [HCx.out]; omega) (by rw [HCx.out]; omega),HCx.out,← HSm.out,hrc])
    clear hub hS hSb hrc hc0
    go_wp2_with fail
    refine (pack_unfolded S (Nat.lt_of_lt_of_le HSb.out (by omega)) w).mono ?_
    rintro e w1 ⟨rfl,rfl⟩
    rename World => w
    go_wp2_with fail
    go_ret3
    exact ⟨by rw [HE.out]; rfl,rfl⟩
   ·
    have hub : u < 34359738368 := HU.out
    obtain ⟨S,hS⟩ : ∃ S,u + r * 34359738368 = S := ⟨_,rfl⟩
    have HSm := Lib.hid hS
    have HUb := Lib.hid hub
    have hSb : S < 4398046511104 := by omega
    have HSb := Lib.hid hSb
    have hor : bits .or .u64 (u : Int) ((r : Int) * 34359738368) = (S : Int) := by
     rw [u64_orv35 _ _ (by omega) (by omega) (by omega) (by omega) (by omega)]
     omega
    by_cases hm : 128 ≤ c
    ·
     have HN : Hid (rd 6 S (bs.drop 6) = num bs) := Lib.hid (by
      have h := HR.out
      rw [HDr.out,rd_more (by omega) (by rw [HCx.out]; exact hm),HCx.out,HRc.out] at h
      rw [← HSm.out]
      exact h)
     have HPw : Hid (S < pw 6) := Lib.hid (by
      rw [show pw 6 = 4398046511104 by decide]
      exact HSb.out)
     have a1 : (128 : Int) ≤ (c : Int) := by omega
     clear hub hS hSb
     go_wp2
     go_round
     case rel => exact ⟨6,S,rfl,rfl,by omega,by omega,HPw,HN⟩
     case measure => simp [intOf]; omega
    have hrc : r = c := by
     have := HRc.out
     omega
    have a2 : ¬ (128 : Int) ≤ (c : Int) := by omega
    by_cases hc0 : c = 0
    ·
     have HE : Hid (num bs = .inl 4) := Lib.hid (by
      rw [← HR.out,HDr.out,rd_zero (by rw [HCx.out]; exact hc0) (by omega)])
     have q0 : ((c : Int) == 0) = true := beq_iff_eq.2 (by omega)
     clear hub hS hSb hrc hc0
     go_wp2
     go_ret3
     exact ⟨by rw [HE.out]; rfl,rfl⟩
    have q0 : ((c : Int) == 0) = false := beq_eq_false_iff_ne.2 (by omega)
    have HE : Hid (num bs = .inr (S,6)) := Lib.hid (by
     rw [← HR.out,HDr.out,rd_last (by rw [HCx.out]; omega) (by rw [HCx.out]; omega) (by rw [HCx.out]; omega),HCx.out,← HSm.out,hrc])
    clear hub hS hSb hrc hc0
    go_wp2_with fail
    refine (pack_unfolded S (Nat.lt_of_lt_of_le HSb.out (by omega)) w).mono ?_
    rintro e w1 ⟨rfl,rfl⟩
    rename World => w
    go_wp2_with fail
    go_ret3
    exact ⟨by rw [HE.out]; rfl,rfl⟩
   ·
    have hub : u < 4398046511104 := HU.out
    obtain ⟨S,hS⟩ : ∃ S,u + r * 4398046511104 = S := ⟨_,rfl⟩
    have HSm := Lib.hid hS
    have HUb := Lib.hid hub
    have hSb : S < 562949953421312 := by omega
    have HSb := Lib.hid hSb
    have hor : bits .or .u64 (u : Int) ((r : Int) * 4398046511104) = (S : Int) := by
     rw [u64_orv42 _ _ (by omega) (by omega) (by omega) (by omega) (by omega)]
     omega
    by_cases hm : 128 ≤ c
    ·
     have HN : Hid (rd 7 S (bs.drop 7) = num bs) := Lib.hid (by
      have h := HR.out
      rw [HDr.out,rd_more (by omega) (by rw [HCx.out]; exact hm),HCx.out,HRc.out] at h
      rw [← HSm.out]
      exact h)
     have HPw : Hid (S < pw 7) := Lib.hid (by
      rw [show pw 7 = 562949953421312 by decide]
      exact HSb.out)
     have a1 : (128 : Int) ≤ (c : Int) := by omega
     clear hub hS hSb
     go_wp2
     go_round
     case rel => exact ⟨7,S,rfl,rfl,by omega,by omega,HPw,HN⟩
     case measure => simp [intOf]; omega
    have hrc : r = c := by
     have := HRc.out
     omega
    have a2 : ¬ (128 : Int) ≤ (c : Int) := by omega
    by_cases hc0 : c = 0
    ·
     have HE : Hid (num bs = .inl 4) := Lib.hid (by
      rw [← HR.out,HDr.out,rd_zero (by rw [HCx.out]; exact hc0) (by omega)])
     have q0 : ((c : Int) == 0) = true := beq_iff_eq.2 (by omega)
     clear hub hS hSb hrc hc0
     go_wp2
     go_ret3
     exact ⟨by rw [HE.out]; rfl,rfl⟩
    have q0 : ((c : Int) == 0) = false := beq_eq_false_iff_ne.2 (by omega)
    have HE : Hid (num bs = .inr (S,7)) := Lib.hid (by
     rw [← HR.out,HDr.out,rd_last (by rw [HCx.out]; omega) (by rw [HCx.out]; omega) (by rw [HCx.out]; omega),HCx.out,← HSm.out,hrc])
    clear hub hS hSb hrc hc0
    go_wp2_with fail
    refine (pack_unfolded S (Nat.lt_of_lt_of_le HSb.out (by omega)) w).mono ?_
    rintro e w1 ⟨rfl,rfl⟩
    rename World => w
    go_wp2_with fail
    go_ret3
    exact ⟨by rw [HE.out]; rfl,rfl⟩
   ·
    have hub : u < 562949953421312 := HU.out
    obtain ⟨S,hS⟩ : ∃ S,u + r * 562949953421312 = S := ⟨_,rfl⟩
    have HSm := Lib.hid hS
    have HUb := Lib.hid hub
    have hSb : S < 72057594037927936 := by omega
    have HSb := Lib.hid hSb
    have hor : bits .or .u64 (u : Int) ((r : Int) * 562949953421312) = (S : Int) := by
     rw [u64_orv49 _ _ (by omega) (by omega) (by omega) (by omega) (by omega)]
     omega
    by_cases hm : 128 ≤ c
    ·
     have HN : Hid (rd 8 S (bs.drop 8) = num bs) := Lib.hid (by
      have h := HR.out
      rw [HDr.out,rd_more (by omega) (by rw [HCx.out]; exact hm),HCx.out,HRc.out] at h
      rw [← HSm.out]
      exact h)
     have HPw : Hid (S < pw 8) := Lib.hid (by
      rw [show pw 8 = 72057594037927936 by decide]
      exact HSb.out)
     have a1 : (128 : Int) ≤ (c : Int) := by omega
     clear hub hS hSb
     go_wp2
     go_round
     case rel => exact ⟨8,S,rfl,rfl,by omega,by omega,HPw,HN⟩
     case measure => simp [intOf]; omega
    have hrc : r = c := by
     have := HRc.out
     omega
    have a2 : ¬ (128 : Int) ≤ (c : Int) := by omega
    by_cases hc0 : c = 0
    ·
     have HE : Hid (num bs = .inl 4) := Lib.hid (by
      rw [← HR.out,HDr.out,rd_zero (by rw [HCx.out]; exact hc0) (by omega)])
     have q0 : ((c : Int) == 0) = true := beq_iff_eq.2 (by omega)
     clear hub hS hSb hrc hc0
     go_wp2
     go_ret3
     exact ⟨by rw [HE.out]; rfl,rfl⟩
    have q0 : ((c : Int) == 0) = false := beq_eq_false_iff_ne.2 (by omega)
    have HE : Hid (num bs = .inr (S,8)) := Lib.hid (by
     rw [← HR.out,HDr.out,rd_last (by rw [HCx.out]; omega) (by rw [HCx.out]; omega) (by rw [HCx.out]; omega),HCx.out,← HSm.out,hrc])
    clear hub hS hSb hrc hc0
    go_wp2_with fail
    refine (pack_unfolded S (Nat.lt_of_lt_of_le HSb.out (by omega)) w).mono ?_
    rintro e w1 ⟨rfl,rfl⟩
    rename World => w
    go_wp2_with fail
    go_ret3
    exact ⟨by rw [HE.out]; rfl,rfl⟩
   ·
    have hub : u < 72057594037927936 := HU.out
    obtain ⟨S,hS⟩ : ∃ S,u + r * 72057594037927936 = S := ⟨_,rfl⟩
    have HSm := Lib.hid hS
    have HUb := Lib.hid hub
    have hSb : S < 9223372036854775808 := by omega
    have HSb := Lib.hid hSb
    have hor : bits .or .u64 (u : Int) ((r : Int) * 72057594037927936) = (S : Int) := by
     rw [u64_orv56 _ _ (by omega) (by omega) (by omega) (by omega) (by omega)]
     omega
    by_cases hm : 128 ≤ c
    ·
     have HN : Hid (rd 9 S (bs.drop 9) = num bs) := Lib.hid (by
      have h := HR.out
      rw [HDr.out,rd_more (by omega) (by rw [HCx.out]; exact hm),HCx.out,HRc.out] at h
      rw [← HSm.out]
      exact h)
     have HPw : Hid (S < pw 9) := Lib.hid (by
      rw [show pw 9 = 9223372036854775808 by decide]
      exact HSb.out)
     have a1 : (128 : Int) ≤ (c : Int) := by omega
     clear hub hS hSb
     go_wp2
     go_round
     case rel => exact ⟨9,S,rfl,rfl,by omega,by omega,HPw,HN⟩
     case measure => simp [intOf]; omega
    have hrc : r = c := by
     have := HRc.out
     omega
    have a2 : ¬ (128 : Int) ≤ (c : Int) := by omega
    by_cases hc0 : c = 0
    ·
     have HE : Hid (num bs = .inl 4) := Lib.hid (by
      rw [← HR.out,HDr.out,rd_zero (by rw [HCx.out]; exact hc0) (by omega)])
     have q0 : ((c : Int) == 0) = true := beq_iff_eq.2 (by omega)
     clear hub hS hSb hrc hc0
     go_wp2
     go_ret3
     exact ⟨by rw [HE.out]; rfl,rfl⟩
    have q0 : ((c : Int) == 0) = false := beq_eq_false_iff_ne.2 (by omega)
    have HE : Hid (num bs = .inr (S,9)) := Lib.hid (by
     rw [← HR.out,HDr.out,rd_last (by rw [HCx.out]; omega) (by rw [HCx.out]; omega) (by rw [HCx.out]; omega),HCx.out,← HSm.out,hrc])
    clear hub hS hSb hrc hc0
    go_wp2_with fail
    refine (pack_unfolded S (Nat.lt_of_lt_of_le HSb.out (by omega)) w).mono ?_
    rintro e w1 ⟨rfl,rfl⟩
    rename World => w
    go_wp2_with fail
    go_ret3
    exact ⟨by rw [HE.out]; rfl,rfl⟩
   ·
    have hub : u < 9223372036854775808 := HU.out
    obtain ⟨S,hS⟩ : ∃ S,u + r * 9223372036854775808 = S := ⟨_,rfl⟩
    have HSm := Lib.hid hS
    have HUb := Lib.hid hub
    by_cases ht : 1 < c
    ·
     have HE : Hid (num bs = .inl 4) := Lib.hid (by
      rw [← HR.out,HDr.out,rd_ten rfl (by rw [HCx.out]; exact ht)])
     have a1 : (1 : Int) < (c : Int) := by omega
     clear hub hS
     go_wp2
     go_ret3
     exact ⟨by rw [HE.out]; rfl,rfl⟩
    have hrc : r = c := by
     have := HRc.out
     omega
    have hSb : S < 18446744073709551616 := by omega
    have hor : bits .or .u64 (u : Int) ((r : Int) * 9223372036854775808) = (S : Int) := by
     rw [u64_orv63 _ _ (by omega) (by omega) (by omega) (by omega) (by omega)]
     omega
    have HSb := Lib.hid hSb
    have hr1 : r ≤ 1 := by omega
    have a0 : ¬ (1 : Int) < (c : Int) := by omega
    have a2 : ¬ (128 : Int) ≤ (c : Int) := by omega
    by_cases hc0 : c = 0
    ·
     have HE : Hid (num bs = .inl 4) := Lib.hid (by
      rw [← HR.out,HDr.out,rd_zero (by rw [HCx.out]; exact hc0) (by omega)])
     have q0 : ((c : Int) == 0) = true := beq_iff_eq.2 (by omega)
     clear hub hS hSb hrc hc0
     go_wp2
     go_ret3
     exact ⟨by rw [HE.out]; rfl,rfl⟩
    have q0 : ((c : Int) == 0) = false := beq_eq_false_iff_ne.2 (by omega)
    have HE : Hid (num bs = .inr (S,10)) := Lib.hid (by
     rw [← HR.out,HDr.out,rd_last (by rw [HCx.out]; omega) (by rw [HCx.out]; omega) (by rw [HCx.out]; omega),HCx.out,← HSm.out,hrc])
    clear hub hS hSb hrc hc0
    go_wp2_with fail
    refine (pack_unfolded S HSb.out w).mono ?_
    rintro e w1 ⟨rfl,rfl⟩
    rename World => w
    go_wp2_with fail
    go_ret3
    exact ⟨by rw [HE.out]; rfl,rfl⟩
  ·
   obtain rfl : k = n := by omega
   have HE : Hid (num bs = .inl 3) := Lib.hid (by
    rw [← HR.out,List.drop_eq_nil_of_le (by rw [← HLen.out]; exact Nat.le_refl _),rd_nil])
   go_wp2
   go_ret3
   exact ⟨by rw [HE.out]; rfl,rfl⟩
end Go.Proofs.YtmhmajoghbgcfaaGreatDoor
namespace Go.Proofs.YtmhmajoghbgcfaaGreatDoor
open Go.RowKit
open Go.Sort (grow)
open Mem Pk
structure Upd (w : World) (p : Nat) (w' : World) : Prop where
 size : w.heap.size ≤ w'.heap.size
 cell : ∀ b o,b < w.heap.size → b ≠ p → w'.cell? ⟨b,o,none⟩ = w.cell? ⟨b,o,none⟩
 frozen : ∀ b o,b < w.heap.size → w'.frozen? ⟨b,o,none⟩ = w.frozen? ⟨b,o,none⟩
 below : ∀ w0,Below w0.heap.size w0 w → w0.heap.size ≤ p → Below w0.heap.size w0 w'
 block : ∀ b,b < w.heap.size → b ≠ p → w'.heap[b]? = w.heap[b]?
theorem Upd.of {w w' : World} (p : Nat) (h : Below w.heap.size w w') : Upd w p w' :=
 ⟨h.size,fun b o hb _ => (bcell h).1 b o hb,fun b o hb => (bcell h).2 b o hb,fun _ k _ => bchain k h,fun b hb _ => h.block b hb⟩
theorem Upd.refl (w : World) (p : Nat) : Upd w p w := Upd.of p (Below.refl _ _)
theorem Upd.trans {w u v : World} {p : Nat} (h : Upd w p u) (k : Upd u p v) : Upd w p v :=
 ⟨Nat.le_trans h.size k.size,fun b o hb hp => by rw [k.cell b o (Nat.lt_of_lt_of_le hb h.size) hp,h.cell b o hb hp],fun b o hb => by rw [k.frozen b o (Nat.lt_of_lt_of_le hb h.size),h.frozen b o hb],fun w0 a c => k.below w0 (h.below w0 a c) c,fun b hb hp => by rw [k.block b (Nat.lt_of_lt_of_le hb h.size) hp,h.block b hb hp]⟩
theorem Upd.set {w : World} {p o : Nat} (x : Value) : Upd w p (w.setCell ⟨p,o,none⟩ x) := by
 refine ⟨by simp,fun b q _ _ => by simp [go_sem],fun b q _ => by simp [go_sem],fun w0 h hp => h.setCell (p := ⟨p,o,none⟩) hp x,fun b _ hp => Below.heap_setCell w ⟨p,o,none⟩ x b hp⟩
theorem By.Ls.upd {w w' : World} {p : Nat} {ao : Option Addr} {n cap : Nat} {bs : List UInt8} (h : By.Ls w ao n cap bs) (k : Upd w p w') (hp : ∀ b off,ao = some ⟨b,off,none⟩ → b ≠ p) : By.Ls w' ao n cap bs := by
 refine ⟨h.len,h.fits,h.reach,h.nil,?_⟩
 rcases h.seg with e | ⟨b,off,e,hc⟩
 · exact .inl e
 · exact .inr ⟨b,off,e,fun i hi => by rw [k.cell _ _ (cell_lt (hc i hi)) (hp b off e)]; exact hc i hi⟩
structure St where
 at' : Nat
 err : Int
structure Rd (w : World) (p : Nat) (ao : Option Addr) (n cap : Nat) (bs : List UInt8) (s : St) : Prop where
 c0 : w.cell? ⟨p,0,none⟩ = some (.slice ao n cap)
 c1 : w.cell? ⟨p,1,none⟩ = some (.int .i64 (s.at' : Int))
 c2 : w.cell? ⟨p,2,none⟩ = some (.int .i64 s.err)
 fz : ∀ o,w.frozen? ⟨p,o,none⟩ = false
 ls : By.Ls w ao n cap bs
 apart : ∀ b off,ao = some ⟨b,off,none⟩ → b ≠ p
 place : s.at' ≤ n
theorem Rd.below {w w' : World} {p : Nat} {ao : Option Addr} {n cap : Nat} {bs : List UInt8} {s : St} (h : Rd w p ao n cap bs s) (k : Below w.heap.size w w') : Rd w' p ao n cap bs s := by
 have hl := cell_lt h.c0
 exact ⟨by rw [(bcell k).1 _ _ hl]; exact h.c0,by rw [(bcell k).1 _ _ hl]; exact h.c1,by rw [(bcell k).1 _ _ hl]; exact h.c2,fun o => by rw [(bcell k).2 _ _ hl]; exact h.fz o,h.ls.below k,h.apart,h.place⟩
theorem Rd.at {w : World} {p : Nat} {ao : Option Addr} {n cap : Nat} {bs : List UInt8} {s : St} (h : Rd w p ao n cap bs s) (a : Nat) (ha : a ≤ n) : Rd (w.setCell ⟨p,1,none⟩ (.int .i64 (a : Int))) p ao n cap bs ⟨a,s.err⟩ :=
 ⟨by simp [go_sem,h.c0],by simp [go_sem,h.c1],by simp [go_sem,h.c2],fun o => by simp [go_sem,h.fz],h.ls.upd (Upd.set _) h.apart,h.apart,ha⟩
theorem Rd.wrong {w : World} {p : Nat} {ao : Option Addr} {n cap : Nat} {bs : List UInt8} {s : St} (h : Rd w p ao n cap bs s) (e : Int) : Rd (w.setCell ⟨p,2,none⟩ (.int .i64 e)) p ao n cap bs ⟨s.at',e⟩ :=
 ⟨by simp [go_sem,h.c0],by simp [go_sem,h.c1],by simp [go_sem,h.c2],fun o => by simp [go_sem,h.fz],h.ls.upd (Upd.set _) h.apart,h.apart,h.place⟩
def rNum (bs : List UInt8) (s : St) : Int × St := if s.err ≠ 0 then (0,s) else match num (bs.drop s.at') with
 | .inl e => (0,⟨s.at',e⟩)
 | .inr q => (uz q.1,⟨s.at' + q.2,0⟩)
theorem rNum_wrong {bs : List UInt8} {s : St} (h : s.err ≠ 0) : rNum bs s = (0,s) := by unfold rNum; rw [if_pos h]
theorem rNum_bad {bs : List UInt8} {s : St} {e : Int} (h : s.err = 0) (k : num (bs.drop s.at') = .inl e) : rNum bs s = (0,⟨s.at',e⟩) := by unfold rNum; rw [if_neg (by simp [h]),k]
theorem rNum_ok {bs : List UInt8} {s : St} {u z : Nat} (h : s.err = 0) (k : num (bs.drop s.at') = .inr (u,z)) : rNum bs s = (uz u,⟨s.at' + z,0⟩) := by unfold rNum; rw [if_neg (by simp [h]),k]
def AnsPk (f : FuncId) (args : Array Value) (u : World) (i : Nat) (os : Array Obj) (v : Value) : Prop :=
 Calls Tryz.prog f args (grow (redrawn u i) os) fun e w'' => e = .returned v ∧ ∃ p : Regrown,w'' = grow (redrawn u p.d) p.os
def numV : Int ⊕ (Nat × Nat) → Value
 | .inl e => .tuple #[.int .i64 0,.int .i64 0,.int .i64 e]
 | .inr p => .tuple #[.int .i64 (uz p.1),.int .i64 (p.2 : Int),.int .i64 0]
theorem number_agg {w : World} {ao : Option Addr} {n cap : Nat} {bs : List UInt8} (h : By.Ls w ao n cap bs) (i : Nat) (os : Array Obj) : AnsPk 174 #[.slice ao n cap] w i os (numV (num bs)) :=
 Calls.regrown_of ((pack_number bs ao n cap _ (h.below (below_regrown w i os))).mono fun e w' ⟨he,hw⟩ => ⟨by rw [he]; cases num bs <;> rfl,by rw [hw]; exact Below.refl _ _⟩)
theorem num_fit {l : List UInt8} {u z : Nat} (h : num l = .inr (u,z)) : z ≤ l.length := by
 obtain ⟨e,h2,_,_⟩ := num_is h
 have := congrArg List.length e
 rw [List.length_append,List.length_drop] at this
 unfold wd at h2
 omega
set_option maxHeartbeats 2000000 in
theorem rd_num (p : Nat) (ao : Option Addr) (n cap : Nat) (bs : List UInt8) (s : St) (w : World) (hR : Rd w p ao n cap bs s) :
  Calls Tryz.prog 143 #[.pointer (some ⟨p,0,none⟩)] w fun e w' => e = .returned (.int .i64 (rNum bs s).1) ∧ Rd w' p ao n cap bs (rNum bs s).2 ∧ Upd w p w' := by
 have HR := Lib.hid hR
 obtain ⟨a,er⟩ := s
 obtain ⟨c0,c1,c2,fz,hls,hap,hpl⟩ := hR
 dsimp only at c1 c2 hpl
 have hcap := hls.reach
 have hfit := hls.fits
 have hlen := hls.len
 by_cases he : er = 0
 ·
  subst he
  obtain ⟨ao2,cap2,hsl,hL2,_⟩ := hls.from a hpl
  have k0 := cell_regrown c0
  have k1 := cell_regrown c1
  have kn := number_agg hL2
  cases hn : num (bs.drop a) with
  | inl e =>
   rw [hn] at kn
   unfold numV at kn
   have HN := Lib.hid (rNum_bad (bs := bs) (s := ⟨a,0⟩) rfl hn)
   clear hn hls hap fz hL2 hlen
   go_enter Tryz.func143,Tryz.ntmps143
   go_wp2
   refine wp_region_quiet_below (by kernel_rfl) (by kernel_rfl) ?_
   repeat (first | go_big_quiet_step (first | (go_at_call 174; exact kn _ _)) | quiet_step (first | (go_at_call 174; exact kn _ _)))
   refine wpQuiet_nil ?_
   intro _ hw'
   obtain ⟨⟨dq,osq⟩,hw''⟩ := hw'
   subst hw''
   have bq := below_regrown w dq osq
   have HRq := Lib.hid (HR.out.below bq)
   have HUq := Lib.hid (Upd.of p bq)
   clear k0 k1 kn c0 c1 c2 bq hsl
   generalize grow (redrawn w dq) osq = x at *
   have d1 := HRq.out.c1
   have d2 := HRq.out.c2
   have df := HRq.out.fz
   dsimp only at d1 d2
   go_wp2
   go_ret
   refine ⟨by rw [HN.out]; rfl,?_,?_⟩
   ·
    rw [HN.out]
    exact (HRq.out.at a hpl).wrong e
   · exact (HUq.out.trans (Upd.set _)).trans (Upd.set _)
  | inr q =>
   obtain ⟨u,z⟩ := q
   rw [hn] at kn
   unfold numV at kn
   have hz : a + z ≤ n := by
    have := num_fit hn
    rw [List.length_drop] at this
    omega
   have HN := Lib.hid (rNum_ok (bs := bs) (s := ⟨a,0⟩) rfl hn)
   clear hn hls hap fz hL2 hlen
   go_enter Tryz.func143,Tryz.ntmps143
   go_wp2
   refine wp_region_quiet_below (by kernel_rfl) (by kernel_rfl) ?_
   repeat (first | go_big_quiet_step (first | (go_at_call 174; exact kn _ _)) | quiet_step (first | (go_at_call 174; exact kn _ _)))
   refine wpQuiet_nil ?_
   intro _ hw'
   obtain ⟨⟨dq,osq⟩,hw''⟩ := hw'
   subst hw''
   have bq := below_regrown w dq osq
   have HRq := Lib.hid (HR.out.below bq)
   have HUq := Lib.hid (Upd.of p bq)
   clear k0 k1 kn c0 c1 c2 bq hsl
   generalize grow (redrawn w dq) osq = x at *
   have d1 := HRq.out.c1
   have d2 := HRq.out.c2
   have df := HRq.out.fz
   dsimp only at d1 d2
   go_wp2
   go_ret
   refine ⟨by rw [HN.out]; rfl,?_,?_⟩
   ·
    rw [HN.out]
    have := (HRq.out.at (a + z) hz).wrong 0
    simpa using this
   · exact (HUq.out.trans (Upd.set _)).trans (Upd.set _)
 ·
  have HN := Lib.hid (rNum_wrong (bs := bs) (s := ⟨a,er⟩) he)
  have hne : (er != 0) = true := bne_iff_ne.2 he
  clear hls hap fz
  go_enter Tryz.func143,Tryz.ntmps143
  go_wp2
  go_ret
  exact ⟨by rw [HN.out]; rfl,by rw [HN.out]; exact HR.out,Upd.refl _ _⟩
end Go.Proofs.YtmhmajoghbgcfaaGreatDoor
namespace Go.Proofs.YtmhmajoghbgcfaaGreatDoor
open Go.RowKit
open Go.Sort (grow)
open Mem Pk
theorem rd_refuse (p : Nat) (ao : Option Addr) (n cap : Nat) (bs : List UInt8) (s : St) (a : Nat) (e : Int) (w : World) (hR : Rd w p ao n cap bs s) (ha : a ≤ n) :
  Calls Tryz.prog 195 #[.pointer (some ⟨p,0,none⟩),.int .i64 (a : Int),.int .i64 e] w fun r w' => r = .returned (.tuple #[]) ∧ Rd w' p ao n cap bs ⟨a,e⟩ ∧ Upd w p w' := by
 have HR := Lib.hid hR
 obtain ⟨c0,c1,c2,fz,_,_,_⟩ := hR
 go_enter Tryz.func195,Tryz.ntmps195
 go_wp2
 go_end0
 exact ⟨rfl,(HR.out.at a ha).wrong e,(Upd.set _).trans (Upd.set _)⟩
def rWithin (bs : List UInt8) (lo hi : Int) (s : St) : Int × St := if (rNum bs s).2.err ≠ 0 then (0,(rNum bs s).2) else if (rNum bs s).1 < lo ∨ hi < (rNum bs s).1 then (0,⟨s.at',2⟩) else rNum bs s
theorem rWithin_wrong {bs : List UInt8} {lo hi : Int} {s : St} (h : (rNum bs s).2.err ≠ 0) : rWithin bs lo hi s = (0,(rNum bs s).2) := by unfold rWithin; rw [if_pos h]
theorem rWithin_long {bs : List UInt8} {lo hi : Int} {s : St} (h : (rNum bs s).2.err = 0) (k : (rNum bs s).1 < lo ∨ hi < (rNum bs s).1) : rWithin bs lo hi s = (0,⟨s.at',2⟩) := by unfold rWithin; rw [if_neg (by simp [h]),if_pos k]
theorem rWithin_ok {bs : List UInt8} {lo hi : Int} {s : St} (h : (rNum bs s).2.err = 0) (k : ¬ ((rNum bs s).1 < lo ∨ hi < (rNum bs s).1)) : rWithin bs lo hi s = rNum bs s := by unfold rWithin; rw [if_neg (by simp [h]),if_neg k]
set_option maxHeartbeats 2000000 in
theorem rd_within (p : Nat) (ao : Option Addr) (n cap : Nat) (bs : List UInt8) (lo hi : Int) (s : St) (w : World) (hR : Rd w p ao n cap bs s) :
  Calls Tryz.prog 194 #[.pointer (some ⟨p,0,none⟩),.int .i64 lo,.int .i64 hi] w fun e w' => e = .returned (.int .i64 (rWithin bs lo hi s).1) ∧ Rd w' p ao n cap bs (rWithin bs lo hi s).2 ∧ Upd w p w' := by
 have HR := Lib.hid hR
 have hpl := hR.place
 have c1 := hR.c1
 clear hR
 go_enter Tryz.func194,Tryz.ntmps194
 go_wp2_with fail
 refine (rd_num p ao n cap bs s w HR.out).mono ?_
 rintro e w1 ⟨rfl,hR1,hU1⟩
 have HR1 := Lib.hid hR1
 have HU1 := Lib.hid hU1
 have d2 := hR1.c2
 clear hR1 hU1 c1
 obtain ⟨v,s1,hv⟩ : ∃ v s1,rNum bs s = (v,s1) := ⟨_,_,rfl⟩
 have HV := Lib.hid hv
 rw [hv] at HR1 d2
 rw [hv]
 dsimp only at d2 HR1 ⊢
 clear hv
 by_cases he : s1.err = 0
 ·
  rw [he] at d2
  by_cases hb : v < lo ∨ hi < v
  ·
   have HN : Hid (rWithin bs lo hi s = (0,⟨s.at',2⟩)) := Lib.hid (rWithin_long (by rw [HV.out]; exact he) (by rw [HV.out]; exact hb))
   rcases hb with hb | hb
   ·
    go_wp2_with fail
    refine (rd_refuse p ao n cap bs s1 s.at' 2 w1 HR1.out hpl).mono ?_
    rintro e w2 ⟨rfl,hR2,hU2⟩
    have HR2 := Lib.hid hR2
    have HU2 := Lib.hid (HU1.out.trans hU2)
    clear hR2 hU2
    go_wp2_with fail
    go_ret
    exact ⟨by rw [HN.out]; rfl,by rw [HN.out]; exact HR2.out,HU2.out⟩
   ·
    by_cases hlo : v < lo
    ·
     go_wp2_with fail
     refine (rd_refuse p ao n cap bs s1 s.at' 2 w1 HR1.out hpl).mono ?_
     rintro e w2 ⟨rfl,hR2,hU2⟩
     have HR2 := Lib.hid hR2
     have HU2 := Lib.hid (HU1.out.trans hU2)
     clear hR2 hU2
     go_wp2_with fail
     go_ret
     exact ⟨by rw [HN.out]; rfl,by rw [HN.out]; exact HR2.out,HU2.out⟩
    ·
     go_wp2_with fail
     refine (rd_refuse p ao n cap bs s1 s.at' 2 w1 HR1.out hpl).mono ?_
     rintro e w2 ⟨rfl,hR2,hU2⟩
     have HR2 := Lib.hid hR2
     have HU2 := Lib.hid (HU1.out.trans hU2)
     clear hR2 hU2
     go_wp2_with fail
     go_ret
     exact ⟨by rw [HN.out]; rfl,by rw [HN.out]; exact HR2.out,HU2.out⟩
  ·
   have HN : Hid (rWithin bs lo hi s = (v,s1)) := Lib.hid (by rw [rWithin_ok (by rw [HV.out]; exact he) (by rw [HV.out]; exact hb),HV.out])
   have hb1 : ¬ v < lo := fun h => hb (.inl h)
   have hb2 : ¬ hi < v := fun h => hb (.inr h)
   clear hb
   go_wp2_with fail
   go_ret
   exact ⟨by rw [HN.out]; rfl,by rw [HN.out]; exact HR1.out,HU1.out⟩
 ·
  have HN : Hid (rWithin bs lo hi s = (0,s1)) := Lib.hid (by rw [rWithin_wrong (by rw [HV.out]; exact he),HV.out])
  have hne : (s1.err != 0) = true := bne_iff_ne.2 he
  go_wp2_with fail
  go_ret
  exact ⟨by rw [HN.out]; rfl,by rw [HN.out]; exact HR1.out,HU1.out⟩
end Go.Proofs.YtmhmajoghbgcfaaGreatDoor
namespace Go.Proofs.YtmhmajoghbgcfaaGreatDoor
open Go.RowKit
open Go.Sort (grow)
open Mem Pk
def rCount (bs : List UInt8) (most : Int) (s : St) : Int × St := if (bs.length : Int) - ((rWithin bs 0 most s).2.at' : Int) < (rWithin bs 0 most s).1 then (0,⟨s.at',3⟩) else rWithin bs 0 most s
theorem rCount_short {bs : List UInt8} {most : Int} {s : St} (h : (bs.length : Int) - ((rWithin bs 0 most s).2.at' : Int) < (rWithin bs 0 most s).1) : rCount bs most s = (0,⟨s.at',3⟩) := by unfold rCount; rw [if_pos h]
theorem rCount_ok {bs : List UInt8} {most : Int} {s : St} (h : ¬ (bs.length : Int) - ((rWithin bs 0 most s).2.at' : Int) < (rWithin bs 0 most s).1) : rCount bs most s = rWithin bs 0 most s := by unfold rCount; rw [if_neg h]
theorem rNum_fit (bs : List UInt8) (s : St) : Fit (rNum bs s).1 := by
 have f0 : Fit 0 := ⟨by omega,by omega⟩
 unfold rNum
 split
 · exact f0
 ·
  cases h : num (bs.drop s.at') with
  | inl e => exact f0
  | inr q =>
   obtain ⟨u,z⟩ := q
   exact uz_fit (num_is h).2.2.1
theorem rWithin_fit (bs : List UInt8) (lo hi : Int) (s : St) : Fit (rWithin bs lo hi s).1 := by
 have f0 : Fit 0 := ⟨by omega,by omega⟩
 unfold rWithin
 split
 · exact f0
 ·
  split
  · exact f0
  · exact rNum_fit bs s
theorem rWithin_pos (bs : List UInt8) (hi : Int) (s : St) : 0 ≤ (rWithin bs 0 hi s).1 := by
 unfold rWithin
 split
 · exact Int.le_refl _
 ·
  split
  · exact Int.le_refl _
  · omega
set_option maxHeartbeats 2000000 in
theorem rd_count (p : Nat) (ao : Option Addr) (n cap : Nat) (bs : List UInt8) (most : Int) (s : St) (w : World) (hR : Rd w p ao n cap bs s) :
  Calls Tryz.prog 175 #[.pointer (some ⟨p,0,none⟩),.int .i64 most] w fun e w' => e = .returned (.int .i64 (rCount bs most s).1) ∧ Rd w' p ao n cap bs (rCount bs most s).2 ∧ Upd w p w' := by
 have HR := Lib.hid hR
 have hpl := hR.place
 have c1 := hR.c1
 have hcap := hR.ls.reach
 have hfit := hR.ls.fits
 have HLen := Lib.hid hR.ls.len
 clear hR
 go_enter Tryz.func175,Tryz.ntmps175
 go_wp2_with fail
 refine (rd_within p ao n cap bs 0 most s w HR.out).mono ?_
 rintro e w1 ⟨rfl,hR1,hU1⟩
 have hvf := rWithin_fit bs 0 most s
 obtain ⟨v,s1,hv⟩ : ∃ v s1,rWithin bs 0 most s = (v,s1) := ⟨_,_,rfl⟩
 have HV := Lib.hid hv
 rw [hv] at hR1 hvf
 rw [hv]
 dsimp only at hvf hR1 ⊢
 unfold Fit at hvf
 have hpl1 := hR1.place
 have k0 := cell_regrown hR1.c0
 have k1 := cell_regrown hR1.c1
 have HR1 := Lib.hid hR1
 have HU1 := Lib.hid hU1
 clear hR1 hU1 c1 hv
 obtain ⟨a1,e1⟩ := s1
 dsimp only at k1 hpl1
 by_cases hb : (n : Int) - (a1 : Int) < v
 ·
  have HN : Hid (rCount bs most s = (0,⟨s.at',3⟩)) := Lib.hid (rCount_short (by rw [HV.out,← HLen.out]; exact hb))
  go_wp2
  refine wp_region_quiet_below (by kernel_rfl) (by kernel_rfl) ?_
  repeat (first | go_big_quiet_step (fail) | quiet_step (fail))
  refine wpQuiet_nil ?_
  intro _ hw'
  obtain ⟨⟨dq,osq⟩,hw''⟩ := hw'
  subst hw''
  have bq := below_regrown w1 dq osq
  have HRq := Lib.hid (HR1.out.below bq)
  have HUq := Lib.hid (HU1.out.trans (Upd.of p bq))
  clear k0 k1 bq
  generalize grow (redrawn w1 dq) osq = x at *
  go_wp2_with fail
  refine (rd_refuse p ao n cap bs ⟨a1,e1⟩ s.at' 3 x HRq.out hpl).mono ?_
  rintro e w2 ⟨rfl,hR2,hU2⟩
  have HR2 := Lib.hid hR2
  have HU2 := Lib.hid (HUq.out.trans hU2)
  clear hR2 hU2
  go_wp2_with fail
  go_ret
  exact ⟨by rw [HN.out]; rfl,by rw [HN.out]; exact HR2.out,HU2.out⟩
 ·
  have HN : Hid (rCount bs most s = (v,⟨a1,e1⟩)) := Lib.hid (by rw [rCount_ok (by rw [HV.out,← HLen.out]; exact hb),HV.out])
  go_wp2
  refine wp_region_quiet_below (by kernel_rfl) (by kernel_rfl) ?_
  repeat (first | go_big_quiet_step (fail) | quiet_step (fail))
  refine wpQuiet_nil ?_
  intro _ hw'
  obtain ⟨⟨dq,osq⟩,hw''⟩ := hw'
  subst hw''
  have bq := below_regrown w1 dq osq
  have HRq := Lib.hid (HR1.out.below bq)
  have HUq := Lib.hid (HU1.out.trans (Upd.of p bq))
  clear k0 k1 bq
  generalize grow (redrawn w1 dq) osq = x at *
  go_wp2_with fail
  go_ret
  exact ⟨by rw [HN.out]; rfl,by rw [HN.out]; exact HRq.out,HUq.out⟩
end Go.Proofs.YtmhmajoghbgcfaaGreatDoor
namespace Go.Proofs.YtmhmajoghbgcfaaGreatDoor
open Go.RowKit
open Go.Sort (grow)
open Mem Pk
def str (bs : List UInt8) : ByteArray := ⟨bs.toArray⟩
theorem strOf (bs : List UInt8) : strOfNums (bs.map fun b => (b.toNat : Int)) = str bs := by
 unfold strOfNums str
 rw [List.map_map]
 have h : bs.map ((fun n : Int => UInt8.ofNat n.toNat) ∘ fun b => (b.toNat : Int)) = bs := by
  conv => rhs; rw [← List.map_id bs]
  apply List.map_congr_left
  intro b _
  simp
 rw [h]
theorem By.Ls.str {w : World} {ao : Option Addr} {n cap : Nat} {bs : List UInt8} (h : By.Ls w ao n cap bs) : (convert 59 9 (.slice ao n cap)).run Tryz.prog w = .ok (.string (str bs)) w := by
 have hn := h.len
 have empty : bs = [] → n = 0 := fun e => by rw [hn,e]; rfl
 rcases h.seg with e | ⟨b,off,rfl,hc⟩
 ·
  subst e
  obtain rfl := empty rfl
  cases ao with
  | none =>
   rw [run_convert_bytes_nil w 59 5 Tryz.underlying59 Tryz.underlying5 0 cap 9 Tryz.underlying9]
   rfl
  | some a =>
   obtain ⟨b,off,sp⟩ := a
   have hl : (loadCells ⟨b,off,sp⟩ 0).run Tryz.prog w = .ok #[] w := by simpa using run_loadCells_list (P := Tryz.prog) w ⟨b,off,sp⟩ [] (by simp)
   rw [run_convert_bytes_string w 59 9 5 _ 0 cap Tryz.underlying59 Tryz.underlying5 Tryz.underlying9,run_bytesToString w _ 0 cap [] (by simpa using hl)]
   rfl
 ·
  have hr := run_convert_bytes_arg (P := Tryz.prog) w 59 5 Tryz.underlying59 Tryz.underlying5 b off n cap (bs.map fun b => (b.toNat : Int)) (by simpa using hn.symm) (fun i hi => by
   rw [hc i (by omega)]
   unfold By.bv
   simp [List.getD,List.getElem?_eq_getElem (show i < bs.length by omega)]) 9 Tryz.underlying9
  rw [hr,strOf]
def rText (bs : List UInt8) (most : Int) (s : St) : ByteArray × St := (str ((bs.take ((rCount bs most s).2.at' + (rCount bs most s).1.toNat)).drop (rCount bs most s).2.at'),⟨(rCount bs most s).2.at' + (rCount bs most s).1.toNat,(rCount bs most s).2.err⟩)
theorem rCount_pos (bs : List UInt8) (hi : Int) (s : St) : 0 ≤ (rCount bs hi s).1 := by
 unfold rCount
 split
 · exact Int.le_refl _
 · exact rWithin_pos bs hi s
theorem rCount_in {bs : List UInt8} {most : Int} {s : St} (h : s.at' ≤ bs.length) : (rCount bs most s).2.at' + (rCount bs most s).1.toNat ≤ bs.length := by
 have hp := rWithin_pos bs most s
 unfold rCount
 split
 ·
  show s.at' + 0 ≤ bs.length
  omega
 · omega
set_option maxHeartbeats 2000000 in
theorem rd_text (p : Nat) (ao : Option Addr) (n cap : Nat) (bs : List UInt8) (most : Int) (s : St) (w : World) (hR : Rd w p ao n cap bs s) :
  Calls Tryz.prog 144 #[.pointer (some ⟨p,0,none⟩),.int .i64 most] w fun e w' => e = .returned (.string (rText bs most s).1) ∧ Rd w' p ao n cap bs (rText bs most s).2 ∧ Upd w p w' := by
 have HR := Lib.hid hR
 have hcap := hR.ls.reach
 have hfit := hR.ls.fits
 have HLen := Lib.hid hR.ls.len
 have hin := rCount_in (bs := bs) (most := most) (s := s) (by rw [← hR.ls.len]; exact hR.place)
 have hpos := rCount_pos bs most s
 clear hR
 go_enter Tryz.func144,Tryz.ntmps144
 go_wp2_with fail
 refine (rd_count p ao n cap bs most s w HR.out).mono ?_
 rintro e w1 ⟨rfl,hR1,hU1⟩
 obtain ⟨v,s1,hv⟩ : ∃ v s1,rCount bs most s = (v,s1) := ⟨_,_,rfl⟩
 have HT : Hid (rText bs most s = (str ((bs.take (s1.at' + v.toNat)).drop s1.at'),⟨s1.at' + v.toNat,s1.err⟩)) := Lib.hid (by unfold rText; rw [hv])
 rw [hv] at hR1 hin hpos
 rw [hv]
 dsimp only at hR1 hin hpos ⊢
 obtain ⟨q,rfl⟩ : ∃ q : Nat,v = q := ⟨v.toNat,by omega⟩
 rw [Int.toNat_natCast] at HT hin
 obtain ⟨a1,e1⟩ := s1
 dsimp only at hin HT
 rw [← HLen.out] at hin
 obtain ⟨ao2,cap2,hsl,hL2⟩ := hR1.ls.mid a1 (a1 + q) (by omega) hin
 rw [show ((a1 + q : Nat) : Int) = (a1 : Int) + (q : Int) from by omega,show a1 + q - a1 = q by omega] at hsl
 rw [show a1 + q - a1 = q by omega] at hL2
 have hstr : ∀ (d : Nat) (os : Array Obj),(convert 59 9 (.slice ao2 q cap2)).run Tryz.prog (grow (redrawn w1 d) os) = .ok (.string (str ((bs.take (a1 + q)).drop a1))) (grow (redrawn w1 d) os) := fun d os => (hL2.below (below_regrown w1 d os)).str
 have k0 := cell_regrown hR1.c0
 have k1 := cell_regrown hR1.c1
 dsimp only at k1
 have HR1 := Lib.hid hR1
 have HU1 := Lib.hid hU1
 obtain ⟨S,hS⟩ : ∃ S,str ((bs.take (a1 + q)).drop a1) = S := ⟨_,rfl⟩
 rw [hS] at hstr HT
 clear hR1 hU1 hv hL2 hpos hS
 go_wp2
 refine wp_region_quiet_below (by kernel_rfl) (by kernel_rfl) ?_
 repeat (first | go_big_quiet_step (fail) | quiet_step (fail))
 refine wpQuiet_nil ?_
 intro _ hw'
 obtain ⟨⟨dq,osq⟩,hw''⟩ := hw'
 subst hw''
 have bq := below_regrown w1 dq osq
 have HRq := Lib.hid (HR1.out.below bq)
 have HUq := Lib.hid (HU1.out.trans (Upd.of p bq))
 clear k0 k1 bq hstr hsl
 generalize grow (redrawn w1 dq) osq = x at *
 have d1 := HRq.out.c1
 have df := HRq.out.fz
 dsimp only at d1
 go_wp2
 go_ret
 refine ⟨by rw [HT.out]; rfl,?_,HUq.out.trans (Upd.set _)⟩
 rw [HT.out]
 have := HRq.out.at (a1 + q) hin
 simpa using this
def rEnd (bs : List UInt8) (s : St) : Int × St := if s.err = 0 ∧ s.at' < bs.length then (5,⟨s.at',5⟩) else (s.err,s)
theorem rEnd_tail {bs : List UInt8} {s : St} (h : s.err = 0 ∧ s.at' < bs.length) : rEnd bs s = (5,⟨s.at',5⟩) := by unfold rEnd; rw [if_pos h]
theorem rEnd_else {bs : List UInt8} {s : St} (h : ¬ (s.err = 0 ∧ s.at' < bs.length)) : rEnd bs s = (s.err,s) := by unfold rEnd; rw [if_neg h]
set_option maxHeartbeats 2000000 in
theorem rd_end (p : Nat) (ao : Option Addr) (n cap : Nat) (bs : List UInt8) (s : St) (w : World) (hR : Rd w p ao n cap bs s) :
  Calls Tryz.prog 145 #[.pointer (some ⟨p,0,none⟩)] w fun e w' => e = .returned (.int .i64 (rEnd bs s).1) ∧ Rd w' p ao n cap bs (rEnd bs s).2 ∧ Upd w p w' := by
 have HR := Lib.hid hR
 have hcap := hR.ls.reach
 have hfit := hR.ls.fits
 have HLen := Lib.hid hR.ls.len
 have hpl := hR.place
 have k0 := cell_regrown hR.c0
 have k1 := cell_regrown hR.c1
 have k2 := cell_regrown hR.c2
 obtain ⟨a,er⟩ := s
 dsimp only at k1 k2 hpl
 clear hR
 by_cases he : er = 0
 ·
  subst he
  by_cases hlt : a < n
  ·
   have HN : Hid (rEnd bs ⟨a,0⟩ = (5,⟨a,5⟩)) := Lib.hid (rEnd_tail ⟨rfl,by rw [← HLen.out]; exact hlt⟩)
   go_enter Tryz.func145,Tryz.ntmps145
   go_wp2
   refine wp_region_quiet_below (by kernel_rfl) (by kernel_rfl) ?_
   repeat (first | go_big_quiet_step (fail) | quiet_step (fail))
   refine wpQuiet_nil ?_
   intro _ hw'
   obtain ⟨⟨dq,osq⟩,hw''⟩ := hw'
   subst hw''
   have bq := below_regrown w dq osq
   have HRq := Lib.hid (HR.out.below bq)
   have HUq := Lib.hid (Upd.of p bq)
   clear k0 k1 k2 bq
   generalize grow (redrawn w dq) osq = x at *
   have d2 := HRq.out.c2
   have df := HRq.out.fz
   dsimp only at d2
   go_wp2
   go_ret
   refine ⟨by rw [HN.out]; rfl,?_,HUq.out.trans (Upd.set _)⟩
   rw [HN.out]
   exact HRq.out.wrong 5
  ·
   have HN : Hid (rEnd bs ⟨a,0⟩ = (0,⟨a,0⟩)) := Lib.hid (rEnd_else (fun h => hlt (by rw [HLen.out]; exact h.2)))
   go_enter Tryz.func145,Tryz.ntmps145
   go_wp2
   refine wp_region_quiet_below (by kernel_rfl) (by kernel_rfl) ?_
   repeat (first | go_big_quiet_step (fail) | quiet_step (fail))
   refine wpQuiet_nil ?_
   intro _ hw'
   obtain ⟨⟨dq,osq⟩,hw''⟩ := hw'
   subst hw''
   have bq := below_regrown w dq osq
   have HRq := Lib.hid (HR.out.below bq)
   have HUq := Lib.hid (Upd.of p bq)
   clear k0 k1 k2 bq
   generalize grow (redrawn w dq) osq = x at *
   have d2 := HRq.out.c2
   dsimp only at d2
   go_wp2
   go_ret
   exact ⟨by rw [HN.out]; rfl,by rw [HN.out]; exact HRq.out,HUq.out⟩
 ·
  have HN : Hid (rEnd bs ⟨a,er⟩ = (er,⟨a,er⟩)) := Lib.hid (rEnd_else (fun h => he h.1))
  have q0 : (er == 0) = false := beq_eq_false_iff_ne.2 he
  go_enter Tryz.func145,Tryz.ntmps145
  go_wp2
  refine wp_region_quiet_below (by kernel_rfl) (by kernel_rfl) ?_
  repeat (first | go_big_quiet_step (fail) | quiet_step (fail))
  refine wpQuiet_nil ?_
  intro _ hw'
  obtain ⟨⟨dq,osq⟩,hw''⟩ := hw'
  subst hw''
  have bq := below_regrown w dq osq
  have HRq := Lib.hid (HR.out.below bq)
  have HUq := Lib.hid (Upd.of p bq)
  clear k0 k1 k2 bq
  generalize grow (redrawn w dq) osq = x at *
  have d2 := HRq.out.c2
  dsimp only at d2
  go_wp2
  go_ret
  exact ⟨by rw [HN.out]; rfl,by rw [HN.out]; exact HRq.out,HUq.out⟩
set_option maxHeartbeats 2000000 in
theorem pack_read (bs : List UInt8) (ao : Option Addr) (m cap : Nat) (w : World) (hL : By.Ls w ao m cap bs) (hm : m ≤ 1000000000000) :
  Calls Tryz.prog 142 #[.slice ao m cap] w fun e w' => (∃ p bo,e = .returned (.pointer (some ⟨p,0,none⟩)) ∧ w.heap.size ≤ p ∧ Rd w' p bo m m bs ⟨0,0⟩) ∧ Below w.heap.size w w' := by
 have hmk := By.make m (by omega)
 have hb0 := By.block_made w m
 have hB1 := (Below.refl w.heap.size w).alloc (Nat.le_refl _) (.cells (By.zeros m) 5)
 obtain ⟨W1,hcp,hblk,hbel,hsz⟩ := By.copy (w.alloc (.cells (By.zeros m) 5)) w.heap.size 0 [] [] m ao m cap bs (by simpa using hb0) rfl hL.len (hL.below hB1).seg (some ⟨w.heap.size,0,none⟩) (fun _ => rfl)
 rw [List.length_nil,Nat.add_zero] at hcp
 rw [List.nil_append,List.append_nil] at hblk
 have HB1 := Lib.hid (hbel _ _ hB1 (Nat.le_refl _))
 have HBk := Lib.hid hblk
 have HLen := Lib.hid hL.len
 have hcap := hL.reach
 have hs1 : W1.heap.size = w.heap.size + 1 := by rw [hsz]; simp
 clear hL hb0 hblk hbel hB1 hsz
 go_enter Tryz.func142,Tryz.ntmps142
 go_wp2
 go_ret
 have bx : Below W1.heap.size W1 (W1.alloc (.cells #[.slice (some ⟨w.heap.size,0,none⟩) m m,.int .i64 0,.int .i64 0] 197)) := (Below.refl _ _).alloc (Nat.le_refl _) _
 have hls := (HBk.out.ls (by rw [← HLen.out]; omega)).below bx
 rw [← HLen.out] at hls
 refine ⟨⟨w.heap.size + 1,some ⟨w.heap.size,0,none⟩,rfl,by omega,?_⟩,bchain HB1.out bx⟩
 rw [← hs1]
 exact ⟨by simp [go_sem],by simp [go_sem],by simp [go_sem],fun o => by simp [go_sem],hls,fun b off e => by cases e; omega,by show 0 ≤ m; omega⟩
end Go.Proofs.YtmhmajoghbgcfaaGreatDoor
namespace Go.Proofs.YtmhmajoghbgcfaaGreatDoor.Wl
open Pk
def nm (n : Int) : List UInt8 := vb (zz n)
def tx (b : ByteArray) : List UInt8 := nm (b.size : Int) ++ txt b
theorem nm_pos (n : Int) : 1 ≤ (nm n).length := vbF_pos
theorem nm_len (n : Int) : (nm n).length ≤ 10 := vbF_len 10 _
def Rem (bs : List UInt8) (s : St) (r : List UInt8) : Prop := s.err = 0 ∧ bs.drop s.at' = r
def s0 : St := ⟨0,0⟩
theorem fwd_num {bs : List UInt8} {s : St} {n : Int} {r : List UInt8} (h : Rem bs s (nm n ++ r)) (hn : Fit n) : (rNum bs s).1 = n ∧ Rem bs (rNum bs s).2 r := by
 have hk : num (bs.drop s.at') = .inr (zz n,wd (zz n)) := by rw [h.2]; exact num_vb (zz_lt hn) r
 rw [rNum_ok h.1 hk]
 refine ⟨uz_zz n,rfl,?_⟩
 show bs.drop (s.at' + wd (zz n)) = r
 rw [← List.drop_drop,h.2]
 exact List.drop_left' rfl
theorem fwd_count {bs : List UInt8} {s : St} {k : Nat} {most : Int} {r : List UInt8} (h : Rem bs s (nm (k : Int) ++ r)) (hk : (k : Int) ≤ most) (hm : most ≤ 100000) (hr : k ≤ r.length) : (rCount bs most s).1 = k ∧ Rem bs (rCount bs most s).2 r := by
 have hf : Fit (k : Int) := ⟨by omega,by omega⟩
 obtain ⟨h1,h2⟩ := fwd_num h hf
 have hw : rWithin bs 0 most s = rNum bs s := rWithin_ok h2.1 (by rw [h1]; omega)
 have hl := congrArg List.length h.2
 rw [List.length_append,List.length_drop] at hl
 have hp := nm_pos (k : Int)
 have hn : num (bs.drop s.at') = .inr (zz (k : Int),wd (zz (k : Int))) := by rw [h.2]; exact num_vb (zz_lt hf) r
 have ha : (rNum bs s).2.at' = s.at' + (nm (k : Int)).length := by rw [rNum_ok h.1 hn]; rfl
 have hc : rCount bs most s = rNum bs s := by
  rw [rCount_ok (by rw [hw,h1,ha]; omega),hw]
 rw [hc]
 exact ⟨h1,h2⟩
theorem str_txt (t : ByteArray) : str (txt t) = t := rfl
theorem fwd_text {bs : List UInt8} {s : St} {t : ByteArray} {most : Int} {r : List UInt8} (h : Rem bs s (tx t ++ r)) (ht : (t.size : Int) ≤ most) (hm : most ≤ 100000) : (rText bs most s).1 = t ∧ Rem bs (rText bs most s).2 r := by
 unfold tx at h
 rw [List.append_assoc] at h
 obtain ⟨h1,h2⟩ := fwd_count h ht hm (by rw [List.length_append,txt_len]; omega)
 have ha : (bs.take ((rCount bs most s).2.at' + t.size)).drop (rCount bs most s).2.at' = txt t := by
  rw [List.drop_take,h2.2,show (rCount bs most s).2.at' + t.size - (rCount bs most s).2.at' = t.size by omega]
  exact List.take_left' (txt_len t)
 unfold rText
 rw [h1,Int.toNat_natCast,ha]
 refine ⟨str_txt t,h2.1,?_⟩
 show bs.drop ((rCount bs most s).2.at' + t.size) = r
 rw [← List.drop_drop,h2.2]
 exact List.drop_left' (txt_len t)
theorem rem_end {bs : List UInt8} {s : St} (h : Rem bs s []) : (rEnd bs s).1 = 0 := by
 rw [rEnd_else fun k => ?_]
 · exact h.1
 ·
  have := congrArg List.length h.2
  rw [List.length_drop,List.length_nil] at this
  omega
theorem rem_start (bs : List UInt8) : Rem bs s0 bs := ⟨rfl,rfl⟩
end Go.Proofs.YtmhmajoghbgcfaaGreatDoor.Wl
namespace Go.Proofs.YtmhmajoghbgcfaaGreatDoor
open Go.RowKit
theorem ret_u32 {a b : Int} (h : a = b) : Ending.returned (.int .u32 a) = .returned (.int .u32 b) := by rw [h]
def Seg (w : World) (ao : Option Addr) (bs : List UInt8) : Prop :=
 bs = [] ∨ ∃ b off,ao = some ⟨b,off,none⟩ ∧ ∀ k (hk : k < bs.length),w.cell? ⟨b,off + k,none⟩ = some (.int .u8 (bs[k].toNat : Int))
theorem lt_of_cell {w : World} {b o : Nat} {v : Value} (h : w.cell? ⟨b,o,none⟩ = some v) : b < w.heap.size := by
 by_cases hb : b < w.heap.size
 · exact hb
 · simp [World.cell?,Array.getElem?_eq_none (Nat.not_lt.1 hb)] at h
theorem Seg.below {w w' : World} {ao : Option Addr} {bs : List UInt8} (h : Seg w ao bs) (hb : Below w.heap.size w w') : Seg w' ao bs := by
 rcases h with h | ⟨b,off,e,hc⟩
 · exact .inl h
 · exact .inr ⟨b,off,e,fun k hk => (hb.cell (p := ⟨b,off + k,none⟩) (lt_of_cell (hc k hk))).trans (hc k hk)⟩
end Go.Proofs.YtmhmajoghbgcfaaGreatDoor
namespace Go.Proofs.YtmhmajoghbgcfaaGreatDoor.Crc
def half (s : Nat) : Nat := if s % 2 = 1 then (s / 2) ^^^ 3945912366 else s / 2
def halves : Nat → Nat → Nat
 | 0,s => s
 | n + 1,s => halves n (half s)
def eat (s : Nat) : List UInt8 → Nat
 | [] => s
 | b :: l => eat (halves 8 (s ^^^ b.toNat)) l
def on (c : Nat) (l : List UInt8) : Nat := eat (c ^^^ 4294967295) l ^^^ 4294967295
def le : List UInt8 → Nat
 | [] => 0
 | b :: l => b.toNat + 256 * le l
theorem xor_lt (a b : Nat) (ha : a < 4294967296) (hb : b < 4294967296) : a ^^^ b < 4294967296 :=
 Nat.xor_lt_two_pow (n := 32) ha hb
theorem half_lt (s : Nat) (h : s < 4294967296) : half s < 4294967296 := by
 unfold half
 split
 · exact xor_lt _ _ (by omega) (by omega)
 · omega
theorem halves_lt : ∀ (n s : Nat),s < 4294967296 → halves n s < 4294967296
 | 0,_,h => h
 | n + 1,s,h => halves_lt n (half s) (half_lt s h)
theorem halves_succ (n s : Nat) : halves (n + 1) s = half (halves n s) := by
 induction n generalizing s with
 | zero => rfl
 | succ n ih => exact ih (half s)
theorem eat_lt : ∀ (l : List UInt8) (s : Nat),s < 4294967296 → eat s l < 4294967296
 | [],_,h => h
 | b :: l,s,h => eat_lt l _ (halves_lt 8 _ (xor_lt _ _ h (by have := b.toNat_lt; omega)))
theorem on_lt (c : Nat) (l : List UInt8) (h : c < 4294967296) : on c l < 4294967296 :=
 xor_lt _ _ (eat_lt l _ (xor_lt _ _ h (by omega))) (by omega)
theorem eat_append (s : Nat) (a b : List UInt8) : eat s (a ++ b) = eat (eat s a) b := by
 induction a generalizing s with
 | nil => rfl
 | cons x a ih => exact ih _
theorem xor_xor (a b : Nat) : a ^^^ b ^^^ b = a := by rw [Nat.xor_assoc,Nat.xor_self,Nat.xor_zero]
theorem on_nil (c : Nat) : on c [] = c := xor_xor c _
theorem on_append (c : Nat) (a b : List UInt8) : on c (a ++ b) = on (on c a) b := by
 unfold on
 rw [eat_append,xor_xor]
theorem le_lt (l : List UInt8) : le l < 2 ^ (8 * l.length) := by
 induction l with
 | nil => simp [le]
 | cons b l ih =>
  have hb := b.toNat_lt
  show b.toNat + 256 * le l < _
  rw [show 8 * (b :: l).length = 8 + 8 * l.length from by simp; omega,Nat.pow_add]
  omega
def four (c : Nat) : List UInt8 := [UInt8.ofNat c,UInt8.ofNat (c / 256),UInt8.ofNat (c / 65536),UInt8.ofNat (c / 16777216)]
theorem le_four (c : Nat) (h : c < 4294967296) : le (four c) = c := by
 simp only [four,le,UInt8.toNat_ofNat']
 omega
theorem four_le (l : List UInt8) (h : l.length = 4) : four (le l) = l := by
 match l,h with
 | [a,b,c,d],_ =>
  have ha := a.toNat_lt
  have hb := b.toNat_lt
  have hc := c.toNat_lt
  have hd := d.toNat_lt
  simp only [four,le]
  have e1 : UInt8.ofNat (a.toNat + 256 * (b.toNat + 256 * (c.toNat + 256 * (d.toNat + 256 * 0)))) = a := UInt8.toNat_inj.1 (by rw [UInt8.toNat_ofNat']; omega)
  have e2 : UInt8.ofNat ((a.toNat + 256 * (b.toNat + 256 * (c.toNat + 256 * (d.toNat + 256 * 0)))) / 256) = b := UInt8.toNat_inj.1 (by rw [UInt8.toNat_ofNat']; omega)
  have e3 : UInt8.ofNat ((a.toNat + 256 * (b.toNat + 256 * (c.toNat + 256 * (d.toNat + 256 * 0)))) / 65536) = c := UInt8.toNat_inj.1 (by rw [UInt8.toNat_ofNat']; omega)
  have e4 : UInt8.ofNat ((a.toNat + 256 * (b.toNat + 256 * (c.toNat + 256 * (d.toNat + 256 * 0)))) / 16777216) = d := UInt8.toNat_inj.1 (by rw [UInt8.toNat_ofNat']; omega)
  rw [e1,e2,e3,e4]
end Go.Proofs.YtmhmajoghbgcfaaGreatDoor.Crc
namespace Go.Proofs.YtmhmajoghbgcfaaGreatDoor
open Go.RowKit
theorem and_one (x : Nat) (h : x < 4294967296) : bits .and .u32 (x : Int) 1 = ((x % 2 : Nat) : Int) := by
 have := u32_and_nat x 1 h (by omega)
 rw [Nat.and_one_is_mod] at this
 exact this
theorem half_odd (x : Nat) (h : x < 4294967296) (ho : ((x : Int) % 2 == 1) = true) : bits .xor .u32 ((x : Int) / 2) 3945912366 = ((Crc.half x : Nat) : Int) := by
 have e : (x : Int) % 2 = 1 := by simpa using ho
 unfold Crc.half
 rw [if_pos (by omega),show (x : Int) / 2 = ((x / 2 : Nat) : Int) from by omega]
 exact u32_xor_nat (x / 2) 3945912366 (by omega) (by omega)
theorem half_even (x : Nat) (he : ((x : Int) % 2 == 1) = false) : (x : Int) / 2 = ((Crc.half x : Nat) : Int) := by
 have e : ¬ (x : Int) % 2 = 1 := by simpa using he
 unfold Crc.half
 rw [if_neg (by omega)]
 omega
theorem not_u32 (c : Nat) (h : c < 4294967296) : bits .xor .u32 IntKind.u32.max (c : Int) = ((c ^^^ 4294967295 : Nat) : Int) := by
 rw [Nat.xor_comm,show IntKind.u32.max = 4294967295 from rfl]
 exact u32_xor_nat 4294967295 c (by omega) h
theorem xor_byte (s : Nat) (b : UInt8) (h : s < 4294967296) : bits .xor .u32 (s : Int) (b.toNat : Int) = ((s ^^^ b.toNat : Nat) : Int) :=
 u32_xor_nat s b.toNat h (by have := b.toNat_lt; omega)
theorem eat_snoc (s : Nat) (bs : List UInt8) (k : Nat) (hk : k < bs.length) : Crc.eat s (bs.take (k + 1)) = Crc.halves 8 (Crc.eat s (bs.take k) ^^^ bs[k].toNat) := by
 rw [List.take_succ_eq_append_getElem hk,Crc.eat_append]
 rfl
set_option maxHeartbeats 400000 in
theorem divide_any (s : Nat) (w : World) (h : s < 4294967296) :
  Calls Tryz.prog 197 #[.int .u32 s] w fun e w' => e = .returned (.int .u32 (Crc.halves 8 s : Nat)) ∧ w' = w := by
 go_enter Tryz.func197,Tryz.ntmps197
 go_wp2
 go_loop [0,4] (fun t i => ∃ k : Nat,k ≤ 8 ∧ i = .int .i64 k ∧ t = .int .u32 (Crc.halves k s : Nat)) (fun _ i => 8 - (intOf i).toNat)
 case atStart => exact ⟨0,Nat.zero_le _,rfl,rfl⟩
 case round =>
  obtain ⟨k,hk,rfl,rfl⟩ := hrel
  have hx := Crc.halves_lt k s h
  have hs := Crc.halves_succ k s
  have H8 : Hid (k = 8 → Crc.halves k s = Crc.halves 8 s) := fun e => by rw [e]
  generalize Crc.halves k s = x at *
  have HS : Hid (Crc.halves (k + 1) s = Crc.half x) := hs
  clear hs
  have h1 := and_one x hx
  go_wp2
  ·
   go_round
   case rel => exact ⟨k + 1,by omega,by go_num,by rw [HS.out]; exact congrArg (Value.int .u32) (half_odd x hx ‹_›)⟩
   case measure => simp [intOf]; omega
  ·
   go_round
   case rel => exact ⟨k + 1,by omega,by go_num,by rw [HS.out]; exact congrArg (Value.int .u32) (half_even x ‹_›)⟩
   case measure => simp [intOf]; omega
  ·
   go_ret
   exact ⟨ret_u32 (by rw [H8.out (by omega)]),rfl⟩
set_option maxHeartbeats 400000 in
theorem on_core (c : Nat) (bs : List UInt8) (b off n cap : Nat) (w : World) (hc : c < 4294967296) (hn : n = bs.length) (hl : n ≤ 9223372036854775807)
  (hcell : ∀ k (hk : k < bs.length),w.cell? ⟨b,off + k,none⟩ = some (.int .u8 (bs[k].toNat : Int))) :
  Calls Tryz.prog 186 #[.int .u32 c,.slice (some ⟨b,off,none⟩) n cap] w fun e w' => e = .returned (.int .u32 (Crc.on c bs : Nat)) ∧ w' = w := by
 have h1 := not_u32 c hc
 have HN : Hid (n = bs.length) := hn
 clear hn
 have hcF := Crc.xor_lt c 4294967295 hc (by omega)
 go_enter Tryz.func186,Tryz.ntmps186
 go_wp2
 go_loop [5,12] (fun t i => ∃ k : Nat,k ≤ n ∧ i = .int .i64 k ∧ t = .int .u32 (Crc.eat (c ^^^ 4294967295) (bs.take k) : Nat)) (fun _ i => n - (intOf i).toNat)
 case atStart => exact ⟨0,Nat.zero_le _,rfl,rfl⟩
 case round =>
  obtain ⟨k,hk,rfl,rfl⟩ := hrel
  have hx := Crc.eat_lt (bs.take k) _ hcF
  by_cases hlt : k < n
  ·
   have hkb : k < bs.length := by have := HN.out; omega
   have HS : Hid (Crc.eat (c ^^^ 4294967295) (bs.take (k + 1)) = Crc.halves 8 (Crc.eat (c ^^^ 4294967295) (bs.take k) ^^^ bs[k].toNat)) := eat_snoc _ bs k hkb
   have hcl := hcell k hkb
   generalize Crc.eat (c ^^^ 4294967295) (bs.take k) = x at *
   generalize bs[k] = y at *
   have hxy := xor_byte x y hx
   have hyl := y.toNat_lt
   have hlt2 := Crc.xor_lt x y.toNat hx (by omega)
   clear hcell
   go_wp2_with (go_at_call 197; refine (divide_any _ _ hlt2).mono ?_; rintro e w' ⟨rfl,rfl⟩)
   go_round
   case rel => exact ⟨k + 1,by omega,by go_num,by rw [HS.out]⟩
   case measure => simp [intOf]; omega
  ·
   clear hcell
   have h2 := not_u32 _ hx
   have HE : Hid (Crc.eat (c ^^^ 4294967295) (bs.take k) ^^^ 4294967295 = Crc.on c bs) := by
    unfold Crc.on; rw [List.take_of_length_le (by have := HN.out; omega)]; rfl
   generalize Crc.eat (c ^^^ 4294967295) (bs.take k) = x at *
   go_wp2
   go_ret
   exact ⟨ret_u32 (by rw [HE.out]),rfl⟩
set_option maxHeartbeats 400000 in
theorem on_none (c : Nat) (ao : Option Addr) (cap : Nat) (w : World) (hc : c < 4294967296) :
  Calls Tryz.prog 186 #[.int .u32 c,.slice ao 0 cap] w fun e w' => e = .returned (.int .u32 (c : Nat)) ∧ w' = w := by
 have h1 := not_u32 c hc
 have hcF := Crc.xor_lt c 4294967295 hc (by omega)
 have h2 := not_u32 _ hcF
 go_enter Tryz.func186,Tryz.ntmps186
 go_wp2
 go_loop [5,12] (fun t i => i = .int .i64 0 ∧ t = .int .u32 (c ^^^ 4294967295 : Nat)) (fun _ i => 0)
 case atStart => exact ⟨rfl,rfl⟩
 case round =>
  obtain ⟨rfl,rfl⟩ := hrel
  go_wp2
  go_ret
  exact ⟨ret_u32 (by rw [Crc.xor_xor]),rfl⟩
theorem on_any (c : Nat) (bs : List UInt8) (ao : Option Addr) (n cap : Nat) (w : World) (hc : c < 4294967296) (hn : n = bs.length) (hl : n ≤ 9223372036854775807) (hs : Seg w ao bs) :
  Calls Tryz.prog 186 #[.int .u32 c,.slice ao n cap] w fun e w' => e = .returned (.int .u32 (Crc.on c bs : Nat)) ∧ w' = w := by
 rcases hs with rfl | ⟨b,off,rfl,hcell⟩
 ·
  subst hn
  rw [Crc.on_nil]
  exact on_none c ao cap w hc
 · exact on_core c bs b off n cap w hc hn hl hcell
def Parts (w : World) (g off : Nat) (ps : List (List UInt8)) : Prop :=
 ∀ k (hk : k < ps.length),∃ ao n cp,w.cell? ⟨g,off + k,none⟩ = some (.slice ao n cp) ∧ n = ps[k].length ∧ n ≤ 9223372036854775807 ∧ Seg w ao ps[k]
theorem on_flat (c : Nat) (ps : List (List UInt8)) (k : Nat) (hk : k < ps.length) : Crc.on c (ps.take (k + 1)).flatten = Crc.on (Crc.on c (ps.take k).flatten) ps[k] := by
 rw [List.take_succ_eq_append_getElem hk,List.flatten_append,Crc.on_append]
 simp
set_option maxHeartbeats 400000 in
theorem of_any (ps : List (List UInt8)) (g off m cap : Nat) (w : World) (hm : m = ps.length) (hl : m ≤ 9223372036854775807) (hp : Parts w g off ps) :
  Calls Tryz.prog 163 #[.slice (some ⟨g,off,none⟩) m cap] w fun e w' => e = .returned (.int .u32 (Crc.on 0 ps.flatten : Nat)) ∧ w' = w := by
 have HM : Hid (m = ps.length) := hm
 have HP : Hid (Parts w g off ps) := hp
 clear hm hp
 go_enter Tryz.func163,Tryz.ntmps163
 go_wp2
 go_loop [3,8] (fun t i => ∃ k : Nat,k ≤ m ∧ i = .int .i64 k ∧ t = .int .u32 (Crc.on 0 (ps.take k).flatten : Nat)) (fun _ i => m - (intOf i).toNat)
 case atStart => exact ⟨0,Nat.zero_le _,rfl,by rw [List.take_zero,List.flatten_nil,Crc.on_nil]; rfl⟩
 case round =>
  obtain ⟨k,hk,rfl,rfl⟩ := hrel
  have hx := Crc.on_lt 0 (ps.take k).flatten (by omega)
  by_cases hlt : k < m
  ·
   have hkb : k < ps.length := by have := HM.out; omega
   have HS : Hid (Crc.on 0 (ps.take (k + 1)).flatten = Crc.on (Crc.on 0 (ps.take k).flatten) ps[k]) := on_flat 0 ps k hkb
   obtain ⟨ao,n,cp,hcl,hn,hln,hseg⟩ := HP.out k hkb
   have HN : Hid (n = ps[k].length) := hn
   have HG : Hid (Seg w ao ps[k]) := hseg
   clear hn hseg
   generalize Crc.on 0 (ps.take k).flatten = x at *
   generalize ps[k] = y at *
   go_wp2_with (go_at_call 186; refine (on_any _ y _ _ _ _ hx HN.out hln HG.out).mono ?_; rintro e w' ⟨rfl,rfl⟩)
   go_round
   case rel => exact ⟨k + 1,by omega,by go_num,by rw [HS.out]⟩
   case measure => simp [intOf]; omega
  ·
   have HE : Hid (Crc.on 0 (ps.take k).flatten = Crc.on 0 ps.flatten) := by
    show _ = _
    rw [List.take_of_length_le (by have := HM.out; omega)]
   generalize Crc.on 0 (ps.take k).flatten = x at *
   go_wp2
   go_ret
   exact ⟨ret_u32 (by rw [HE.out]),rfl⟩
theorem parts_one {u : World} {ao : Option Addr} {bs : List UInt8} {n cap : Nat} (hs : Seg u ao bs) (hn : n = bs.length) (hl : n ≤ 9223372036854775807) :
  Parts (u.alloc (.cells #[.slice ao n cap] 59)) u.heap.size 0 [bs] := by
 intro k hk
 obtain rfl : k = 0 := by simp at hk; omega
 refine ⟨ao,n,cap,?_,hn,hl,hs.below ((Below.refl _ _).alloc (Nat.le_refl _) _)⟩
 rw [cell_of_row _ _ _ _ _ _ (heap_alloc_new u _)]
 rfl
theorem of_one (bs : List UInt8) (ao : Option Addr) (n cap g : Nat) (u : World) (hg : g = u.heap.size) (hs : Seg u ao bs) (hn : n = bs.length) (hl : n ≤ 9223372036854775807) :
  Calls Tryz.prog 163 #[.slice (some ⟨g,0,none⟩) 1 1] (u.alloc (.cells #[.slice ao n cap] 59)) fun e w' => e = .returned (.int .u32 (Crc.on 0 bs : Nat)) ∧ w' = u.alloc (.cells #[.slice ao n cap] 59) := by
 subst hg
 have h := of_any [bs] u.heap.size 0 1 1 _ rfl (by omega) (parts_one (cap := cap) hs hn hl)
 rwa [List.flatten_singleton] at h
end Go.Proofs.YtmhmajoghbgcfaaGreatDoor
namespace Go.Proofs.YtmhmajoghbgcfaaGreatDoor.By
open Go.RowKit
open Mem
def Own (w : World) (B : Nat) (v : Value) (xs : List UInt8) : Prop := w.ownsRow B 5 1 v xs.length (xs.map bv)
theorem own_nil (w : World) (B : Nat) : Own w B (.slice none 0 0) [] := ⟨rfl,.inl ⟨rfl,rfl⟩⟩
theorem own_ls {w : World} {B : Nat} {v : Value} {xs : List UInt8} (h : Own w B v xs) : ∃ ao cap,v = .slice ao xs.length cap ∧ Ls w ao xs.length cap xs ∧ (∀ ad,ao = some ad → ∃ g,ad = ⟨g,0,none⟩ ∧ B ≤ g) := by
 rcases h.2 with ⟨h',h2⟩ | ⟨g,cap,cur,h',hb,hg,hnc,hcm,hcs,htake⟩
 ·
  have e : xs = [] := List.length_eq_zero_iff.1 h2
  subst e
  exact ⟨none,0,h',ls_nil w,fun ad k => by cases k⟩
 ·
  refine ⟨some ⟨g,0,none⟩,cap,h',⟨rfl,hnc,hcm,fun k => (by cases k),.inr ⟨g,0,rfl,fun k hk => ?_⟩⟩,fun ad k => by cases k; exact ⟨g,rfl,hb⟩⟩
  rw [Nat.zero_add,cell_of_row w g _ _ _ _ hg]
  rw [Nat.mul_one] at htake
  have e : (cur.toList.take xs.length)[k]? = (xs.map bv)[k]? := by rw [htake]
  rw [List.getElem?_take_of_lt hk,List.getElem?_map,List.getElem?_eq_getElem hk] at e
  simpa using e
theorem own_ge {w : World} {B : Nat} {v : Value} {xs : List UInt8} (h : Own w B v xs) : ∀ k,v.ownBlock = some k → B ≤ k := by
 intro k hk
 rcases h.2 with ⟨h',_⟩ | ⟨g,cap,cur,h',hb,_⟩
 ·
  rw [h'] at hk
  cases hk
 ·
  rw [h'] at hk
  simp only [Value.ownBlock,Option.some.injEq] at hk
  omega
theorem own_below {w u : World} {B : Nat} {v : Value} {xs : List UInt8} (h : Own w B v xs) (k : Below w.heap.size w u) : Own u B v xs := by
 obtain ⟨h1,h2⟩ := h
 refine ⟨h1,?_⟩
 rcases h2 with h2 | ⟨g,cap,cur,h',hb,hg,h3⟩
 · exact .inl h2
 ·
  refine .inr ⟨g,cap,cur,h',hb,?_,h3⟩
  have hl : g < w.heap.size := by
   obtain ⟨hl,_⟩ := Array.getElem?_eq_some_iff.1 hg
   exact hl
  rw [k.block g hl]
  exact hg
theorem wpList_append {ops : Array Oper} {rest : List Oper} {o : Oper} {a : Act} {Q : Exit → Act → World → Prop} (w : World) (hgd : o.guard = none) (s x : Operand)
  (ho : o.op = .call { callee := .builtin .append,args := #[s,x],argTypes := #[59,59] })
  (B : Nat) (v : Value) (xs : List UInt8) (hs : a.eval s = v) (hown : Own w B v xs)
  (ao : Option Addr) (n cap : Nat) (zs : List UInt8) (hx : a.eval x = .slice ao n cap) (hn : n = zs.length) (hnil : ao = none → cap = 0) (hsrc : Seg w ao zs) (hl : xs.length + n ≤ 140737488355328) (hb : B ≤ w.heap.size)
  (h : ∀ v' w1,Own w1 B v' (xs ++ zs) → w.grownBy w1 v.ownBlock → (v'.ownBlock = v.ownBlock ∨ v'.ownBlock = some w.heap.size) → wpList Tryz.prog ops Q rest (a.put o.dst v') w1) : wpList Tryz.prog ops Q (o :: rest) a w := by
 refine wpList_plain hgd fun K hK => ?_
 obtain ⟨i0,hi,hz0,hz1,hz2⟩ := info_parts info
 have hmx : maxLen = 9223372036854775807 := rfl
 cases ao with
 | none =>
  obtain rfl : cap = 0 := hnil rfl
  rcases hsrc with e | ⟨b,off,e,_⟩
  ·
   obtain rfl : n = 0 := by rw [hn,e]; rfl
   have hrun := run_append_owned_none (P := Tryz.prog) (w := w) B 59 o.type 5 i0 1 Tryz.underlying59 hi v _ _ hown
   unfold Oper.wp
   simp [execOp,ho,resolve,invoke,builtin,hs,hx,hrun,Result.andThen]
   exact hK _ _ (h v w (by rw [e,List.append_nil]; exact hown) ⟨rfl,rfl,rfl,Nat.le_refl _,fun _ _ _ => rfl⟩ (.inl rfl))
  · cases e
 | some ad =>
  obtain ⟨v',w',hr,h2,h3,_,h5⟩ := run_append_own_at (P := Tryz.prog) w B 59 o.type 5 i0 (.int .u8 0) 1 1 Tryz.underlying59 hi hz0 hz1 hz2 rfl (by omega) v xs.length (xs.map bv) hown ad n cap (zs.map bv) (by rw [List.length_map,hn,Nat.mul_one]) (by
   rcases hsrc with e | ⟨b,off,e,hc⟩
   ·
    rw [e]
    intro j u hu
    simp at hu
   ·
    cases e
    exact fun j u hu => news_of hc j u hu) (one_cell zs) (by omega) (by omega) hb
  unfold Oper.wp execOp
  simp only [ho,resolve,invoke,builtin,Sem.run_bind,Sem.run_pure,Result.andThen_ok,List.map_toArray,List.map_cons,List.map_nil,hs,hx,hr]
  refine hK _ _ (h v' w' ?_ h3 h5)
  unfold Own
  rw [List.map_append,List.length_append,← hn]
  exact h2
end Go.Proofs.YtmhmajoghbgcfaaGreatDoor.By
set_option linter.unusedVariables false
namespace Go.Proofs.YtmhmajoghbgcfaaGreatDoor
open Go.RowKit
open Mem
theorem rows_keep {w u : World} {B e k : Nat} {v : Value} {n : Nat} {xs : List Value} (h : w.ownsRow B e k v n xs) (hb : ∀ g,v.ownBlock = some g → u.heap[g]? = w.heap[g]?) : u.ownsRow B e k v n xs := by
 obtain ⟨h1,h2⟩ := h
 refine ⟨h1,?_⟩
 rcases h2 with h2 | ⟨g,cap,cur,h',hB,hg,h3⟩
 · exact .inl h2
 · exact .inr ⟨g,cap,cur,h',hB,(hb g (by rw [h']; rfl)).trans hg,h3⟩
structure UpdQ (Q : Nat → Prop) (u v : World) : Prop where
 size : u.heap.size ≤ v.heap.size
 block : ∀ b,b < u.heap.size → ¬ Q b → v.heap[b]? = u.heap[b]?
 below : ∀ w0,Below w0.heap.size w0 u → (∀ b,Q b → w0.heap.size ≤ b) → Below w0.heap.size w0 v
theorem UpdQ.of {Q : Nat → Prop} {u v : World} (h : Below u.heap.size u v) : UpdQ Q u v := ⟨h.size,fun b hb _ => h.block b hb,fun _ k _ => bchain k h⟩
theorem UpdQ.refl (Q : Nat → Prop) (u : World) : UpdQ Q u u := UpdQ.of (Below.refl _ _)
theorem UpdQ.trans {Q : Nat → Prop} {u v w : World} (h : UpdQ Q u v) (k : UpdQ Q v w) : UpdQ Q u w :=
 ⟨Nat.le_trans h.size k.size,fun b hb hq => (k.block b (Nat.lt_of_lt_of_le hb h.size) hq).trans (h.block b hb hq),fun w0 a c => k.below w0 (h.below w0 a c) c⟩
theorem UpdQ.mono {Q R : Nat → Prop} {u v : World} (h : UpdQ Q u v) (k : ∀ b,Q b → R b) : UpdQ R u v := ⟨h.size,fun b hb hr => h.block b hb fun q => hr (k b q),fun w0 a c => h.below w0 a fun b q => c b (k b q)⟩
theorem UpdQ.set {Q : Nat → Prop} {g : Nat} (u : World) (hg : Q g) (o : Nat) (x : Value) : UpdQ Q u (u.setCell ⟨g,o,none⟩ x) :=
 ⟨by simp,fun b _ hq => heap_setCell_other u ⟨g,o,none⟩ b x (fun e => hq (by rw [show b = g from e]; exact hg)),fun w0 a c => a.setCell (c g hg) x⟩
theorem UpdQ.belowT {Q : Nat → Prop} {u v w : World} (h : UpdQ Q u v) (k : Below v.heap.size v w) : UpdQ Q u w := h.trans (UpdQ.of k)
theorem UpdQ.rows {Q : Nat → Prop} {u v : World} {B e k : Nat} {x : Value} {n : Nat} {xs : List Value} (f : UpdQ Q u v) (h : u.ownsRow B e k x n xs) (hQ : ∀ g,x.ownBlock = some g → ¬ Q g) : v.ownsRow B e k x n xs :=
 rows_keep h fun g hg => f.block g (World.ownsRow.lt h g hg).2 (hQ g hg)
def nw (P : Nat → Prop) (w : World) (b : Nat) : Prop := P b ∨ w.heap.size ≤ b
end Go.Proofs.YtmhmajoghbgcfaaGreatDoor
