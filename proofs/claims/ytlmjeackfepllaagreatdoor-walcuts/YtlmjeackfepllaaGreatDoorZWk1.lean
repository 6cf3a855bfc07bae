import Derived.Test.YtlmjeackfepllaaGreatDoorRows
import Derived.WalkKit
import Derived.WalkLawsBesides
import Derived.Laws.BitsAllLaws
import Derived.Deep.QuietTactic
import Derived.BigQuiet
import Derived.WalkSmall
import Derived.WalkSpells
import Derived.Lib.Hide
import Derived.Lib.OthersKept
import Derived.Laws.Strings3
import Derived.Laws.Runes
import Derived.Laws.Concat
import Derived.Deep.RegionHeld3
import Derived.Maps.AppendAt
import Derived.Laws.AppendOwnNone
import Derived.Laws.Rows
import Derived.Laws.CopyOwn
import Derived.Laws.MakeOwn
import Derived.Laws.BytesArg
import Derived.Lib.Zigzag
import Derived.Lib.VarintBits
import Derived.Lib.QuietBelow
namespace Go.Proofs.YtlmjeackfepllaaGreatDoor
open Go.RowKit
theorem ret_bool {a b : Bool} (h : a = b) : Ending.returned (.bool a) = .returned (.bool b) := by rw [h]
theorem ret_int {a b : Int} (h : a = b) : Ending.returned (.int .i64 a) = .returned (.int .i64 b) := by rw [h]
theorem ret_u64 {a b : Int} (h : a = b) : Ending.returned (.int .u64 a) = .returned (.int .u64 b) := by rw [h]
def both (v e : Int) : Ending := .returned (.tuple #[.int .i64 v,.int .i64 e])
theorem both_eq {a b c d : Int} (h : a = b) (k : c = d) : both a c = both b d := by rw [h,k]
def Fit (x : Int) : Prop := -9223372036854775808 ≤ x ∧ x ≤ 9223372036854775807
theorem fit_in {a : Int} (h : (Lit.int .i64 a).wf = true) : Fit a := by
 simpa [Lit.wf,IntKind.min,IntKind.max,IntKind.signed,IntKind.bits,Fit] using h
end Go.Proofs.YtlmjeackfepllaaGreatDoor
namespace Go.Proofs.YtlmjeackfepllaaGreatDoor.Pk
def zz (n : Int) : Nat := if n < 0 then (-2 * n - 1).toNat else (2 * n).toNat
def uz (u : Nat) : Int := if u % 2 = 1 then -((u / 2 : Nat) : Int) - 1 else ((u / 2 : Nat) : Int)
theorem uz_zz (n : Int) : uz (zz n) = n := by
 unfold uz zz
 split <;> split <;> omega
theorem zz_uz (u : Nat) : zz (uz u) = u := by
 unfold uz zz
 split <;> split <;> omega
theorem zz_lt {n : Int} (h : Fit n) : zz n < 18446744073709551616 := by
 unfold Fit at h
 unfold zz
 split <;> omega
theorem uz_fit {u : Nat} (h : u < 18446744073709551616) : Fit (uz u) := by
 unfold uz Fit
 split <;> omega
def vbF : Nat → Nat → List UInt8
 | 0,_ => []
 | f + 1,u => if u < 128 then [UInt8.ofNat u] else UInt8.ofNat (u % 128 + 128) :: vbF f (u / 128)
def vb (u : Nat) : List UInt8 := vbF 10 u
theorem vbF_low {f u : Nat} (h : u < 128) : vbF (f + 1) u = [UInt8.ofNat u] := by rw [vbF,if_pos h]
theorem vbF_high {f u : Nat} (h : ¬ u < 128) : vbF (f + 1) u = UInt8.ofNat (u % 128 + 128) :: vbF f (u / 128) := by rw [vbF,if_neg h]
theorem vbF_len : ∀ (f u : Nat),(vbF f u).length ≤ f
 | 0,_ => Nat.le_refl _
 | f + 1,u => by
  rw [vbF]
  split
  · simp
  ·
   simp
   exact vbF_len f _
theorem vbF_pos {f u : Nat} : 1 ≤ (vbF (f + 1) u).length := by
 rw [vbF]
 split <;> simp
def sh (u i : Nat) : Nat := u / 128 ^ i
theorem sh_zero (u : Nat) : sh u 0 = u := by simp [sh]
theorem sh_succ (u i : Nat) : sh u (i + 1) = sh u i / 128 := by
 unfold sh
 rw [Nat.pow_succ,Nat.div_div_eq_div_mul]
theorem sh_le (u i : Nat) : sh u i ≤ u := Nat.div_le_self _ _
def lim (c : Nat) : Nat := 2 * 128 ^ (10 - c)
theorem lim_one : lim 1 = 18446744073709551616 := by decide
theorem lim_ten : lim 10 = 2 := by decide
theorem lim_step {c : Nat} (h : c < 10) : lim c = 128 * lim (c + 1) := by
 unfold lim
 rw [show 10 - c = (10 - (c + 1)) + 1 by omega,Nat.pow_succ,Nat.mul_comm (128 ^ (10 - (c + 1))) 128,← Nat.mul_assoc,← Nat.mul_assoc,Nat.mul_comm 2 128]
def wd (u : Nat) : Nat := (vb u).length
def rd : Nat → Nat → List UInt8 → Int ⊕ (Nat × Nat)
 | _,_,[] => .inl 3
 | k,u,x :: l => if k = 9 ∧ 1 < x.toNat then .inl 4 else if 128 ≤ x.toNat then rd (k + 1) (u + x.toNat % 128 * 128 ^ k) l else if x.toNat = 0 ∧ 0 < k then .inl 4 else .inr (u + x.toNat * 128 ^ k,k + 1)
def num (l : List UInt8) : Int ⊕ (Nat × Nat) := rd 0 0 l
theorem rd_nil (k u : Nat) : rd k u [] = .inl 3 := rfl
theorem rd_ten {k u : Nat} {x : UInt8} {l : List UInt8} (h : k = 9) (hx : 1 < x.toNat) : rd k u (x :: l) = .inl 4 := by rw [rd,if_pos ⟨h,hx⟩]
theorem rd_more {k u : Nat} {x : UInt8} {l : List UInt8} (h : ¬ (k = 9 ∧ 1 < x.toNat)) (hx : 128 ≤ x.toNat) : rd k u (x :: l) = rd (k + 1) (u + x.toNat % 128 * 128 ^ k) l := by rw [rd,if_neg h,if_pos hx]
theorem rd_zero {k u : Nat} {x : UInt8} {l : List UInt8} (hx : x.toNat = 0) (hk : 0 < k) : rd k u (x :: l) = .inl 4 := by rw [rd,if_neg (by omega),if_neg (by omega),if_pos ⟨hx,hk⟩]
theorem rd_last {k u : Nat} {x : UInt8} {l : List UInt8} (h : ¬ (k = 9 ∧ 1 < x.toNat)) (hx : x.toNat < 128) (h0 : ¬ (x.toNat = 0 ∧ 0 < k)) : rd k u (x :: l) = .inr (u + x.toNat * 128 ^ k,k + 1) := by rw [rd,if_neg h,if_neg (by omega),if_neg h0]
theorem byte_nat {n : Nat} (h : n < 256) : (UInt8.ofNat n).toNat = n := by
 simp
 omega
theorem rd_vb : ∀ (f k u a : Nat) (r : List UInt8),k + f = 10 → u < 128 ^ f → (1 ≤ f → u < 2 * 128 ^ (9 - k)) → (0 < k → 0 < u) → 1 ≤ f → rd k a (vbF f u ++ r) = .inr (a + u * 128 ^ k,k + (vbF f u).length)
 | 0,_,_,_,_,_,_,_,_,h => by omega
 | f + 1,k,u,a,r,hk,hu,h9,h0,_ => by
  by_cases hs : u < 128
  ·
   rw [vbF_low hs,List.cons_append,List.nil_append,rd_last (by
    rintro ⟨rfl,hx⟩
    rw [byte_nat (by omega)] at hx
    have := h9 (by omega)
    omega) (by rw [byte_nat (by omega)]; exact hs) (by
    rw [byte_nat (by omega)]
    intro h
    have := h0 h.2
    omega),byte_nat (by omega)]
   simp
  ·
   have hf : 1 ≤ f := by
    by_cases hf : 1 ≤ f
    · exact hf
    ·
     obtain rfl : f = 0 := by omega
     simp at hu
     omega
   rw [vbF_high hs,List.cons_append,rd_more (by
    rintro ⟨rfl,hx⟩
    omega) (by rw [byte_nat (by omega)]; omega),byte_nat (by omega)]
   have hp : 128 ^ (9 - k) = 128 * 128 ^ (9 - (k + 1)) := by
    rw [show 9 - k = (9 - (k + 1)) + 1 by omega,Nat.pow_succ,Nat.mul_comm]
   have h9' := h9 (by omega)
   rw [hp] at h9'
   rw [Nat.pow_succ] at hu
   rw [rd_vb f (k + 1) (u / 128) _ r (by omega) (by omega) (fun _ => by omega) (fun _ => by omega) hf]
   congr 1
   have e1 : (u % 128 + 128) % 128 = u % 128 := by omega
   rw [e1,List.length_cons,Nat.pow_succ]
   refine Prod.ext ?_ (by dsimp only; omega)
   dsimp only
   have e2 : u = u % 128 + 128 * (u / 128) := by omega
   generalize 128 ^ k = P
   rw [Nat.add_assoc]
   congr 1
   have e3 : u % 128 * P + u / 128 * (P * 128) = (u % 128 + 128 * (u / 128)) * P := by
    rw [Nat.add_mul,Nat.mul_comm P 128,← Nat.mul_assoc,Nat.mul_comm (u / 128) 128]
   rw [e3,← e2]
theorem num_vb {u : Nat} (h : u < 18446744073709551616) (r : List UInt8) : num (vb u ++ r) = .inr (u,wd u) := by
 unfold num vb wd
 rw [rd_vb 10 0 u 0 r rfl (by omega) (fun _ => by omega) (fun h => by omega) (by omega)]
 simp [vb]
theorem vb_rd : ∀ (l : List UInt8) (k a v s : Nat),k ≤ 9 → rd k a l = .inr (v,s) → ∃ u,v = a + u * 128 ^ k ∧ l = vbF (10 - k) u ++ l.drop (s - k) ∧ (vbF (10 - k) u).length = s - k ∧ k < s ∧ u < 2 * 128 ^ (9 - k) ∧ (0 < k → 0 < u)
 | [],k,a,v,s,_,h => by
  rw [rd_nil] at h
  cases h
 | x :: l,k,a,v,s,hk,h => by
  have hx := UInt8.toNat_lt x
  have hx256 : x.toNat < 256 := hx
  by_cases h9 : k = 9 ∧ 1 < x.toNat
  ·
   rw [rd_ten h9.1 h9.2] at h
   cases h
  ·
   by_cases hm : 128 ≤ x.toNat
   ·
    rw [rd_more h9 hm] at h
    obtain ⟨u,e1,e2,e3,e4,e5,e6⟩ := vb_rd l (k + 1) _ v s (by omega) h
    have e0 := e6 (by omega)
    have hf : 10 - k = (9 - k) + 1 := by omega
    have hn : ¬ (x.toNat % 128 + 128 * u < 128) := by omega
    have ed : (x.toNat % 128 + 128 * u) / 128 = u := by omega
    have em : (x.toNat % 128 + 128 * u) % 128 + 128 = x.toNat := by omega
    have hv : vbF (10 - k) (x.toNat % 128 + 128 * u) = x :: vbF (10 - (k + 1)) u := by
     rw [hf,vbF_high hn,ed,em,show 10 - (k + 1) = 9 - k by omega]
     simp
    have hp : 128 ^ (9 - k) = 128 * 128 ^ (9 - (k + 1)) := by
     rw [show 9 - k = (9 - (k + 1)) + 1 by omega,Nat.pow_succ,Nat.mul_comm]
    refine ⟨x.toNat % 128 + 128 * u,?_,?_,?_,by omega,?_,fun _ => by omega⟩
    ·
     rw [e1,Nat.pow_succ,Nat.add_mul,Nat.add_assoc]
     congr 2
     rw [Nat.mul_comm (128 ^ k) 128,← Nat.mul_assoc,Nat.mul_comm u 128]
    · rw [hv,show s - k = (s - (k + 1)) + 1 by omega,List.drop_succ_cons,List.cons_append,← e2]
    ·
     rw [hv,List.length_cons,e3]
     omega
    ·
     rw [hp]
     omega
   ·
    by_cases hz : x.toNat = 0 ∧ 0 < k
    ·
     rw [rd_zero hz.1 hz.2] at h
     cases h
    ·
     rw [rd_last h9 (by omega) hz] at h
     injection h with h
     injection h with e1 e2
     subst e1 e2
     have hv : vbF (10 - k) x.toNat = [x] := by
      rw [show 10 - k = (9 - k) + 1 by omega,vbF_low (by omega)]
      simp
     have h1 : 1 ≤ 128 ^ (9 - k) := Nat.pos_of_ne_zero (by simp)
     refine ⟨x.toNat,rfl,?_,?_,by omega,?_,fun _ => by omega⟩
     ·
      rw [hv,show k + 1 - k = 1 by omega]
      rfl
     ·
      rw [hv]
      simp
     ·
      by_cases h99 : k = 9
      ·
       subst h99
       simp
       omega
      ·
       have : 128 ^ (9 - k) = 128 * 128 ^ (9 - k - 1) := by
        rw [show 9 - k = (9 - k - 1) + 1 by omega,Nat.pow_succ,Nat.mul_comm]
        simp
       have h2 : 1 ≤ 128 ^ (9 - k - 1) := Nat.pos_of_ne_zero (by simp)
       omega
theorem num_is {l : List UInt8} {u s : Nat} (h : num l = .inr (u,s)) : l = vb u ++ l.drop s ∧ wd u = s ∧ u < 18446744073709551616 ∧ 0 < s := by
 obtain ⟨v,e1,e2,e3,e4,e5,_⟩ := vb_rd l 0 0 u s (by omega) h
 simp at e1
 subst e1
 exact ⟨e2,by unfold wd vb; simpa using e3,by simpa using e5,e4⟩
end Go.Proofs.YtlmjeackfepllaaGreatDoor.Pk
namespace Go.Proofs.YtlmjeackfepllaaGreatDoor
open Go.RowKit
def txt (s : ByteArray) : List UInt8 := s.data.toList
theorem txt_len (s : ByteArray) : (txt s).length = s.size := Array.length_toList
theorem txt_ext {s t : ByteArray} (h : txt s = txt t) : s = t := by
 cases s; cases t
 simp only [txt] at h
 exact congrArg ByteArray.mk (Array.toList_inj.1 h)
theorem ret_str {a b : ByteArray} (h : a = b) : Ending.returned (.string a) = .returned (.string b) := by rw [h]
theorem tl (s : ByteArray) : s.toList = txt s := ByteArray.toList_eq s
theorem size_mk (l : List UInt8) : (ByteArray.mk l.toArray).size = l.length := rfl
theorem txt_mk (l : List UInt8) : txt (ByteArray.mk l.toArray) = l := rfl
theorem mk_txt (s : ByteArray) : s = ⟨(txt s).toArray⟩ := rfl
theorem fits {s : ByteArray} (h : s.data.toList.length ≤ reachBytes) : s.size ≤ 140737488355328 := by
 have h1 := txt_len s
 unfold txt at h1
 unfold reachBytes at h
 omega
theorem txt_app (a b : ByteArray) : txt (a ++ b) = txt a ++ txt b := by simp [txt,ByteArray.data_append]
theorem add_run (a b : ByteArray) (h : a.size + b.size ≤ 9223372036854775807) : ∃ t,a ++ b = t ∧ txt t = txt a ++ txt b ∧ t.size = a.size + b.size ∧ ∀ u,(Op.stringOp .add a b).run Tryz.prog u = .ok (.string t) u :=
 ⟨_,rfl,txt_app a b,by simp,fun u => run_string_add_sum u a b h⟩
theorem add_lists (a b : List UInt8) (h : a.length + b.length ≤ 100) : ∀ u,(Op.stringOp .add ⟨a.toArray⟩ ⟨b.toArray⟩).run Tryz.prog u = .ok (.string ⟨(a ++ b).toArray⟩) u := by
 intro u
 rw [run_string_add_sum u _ _ (by rw [size_mk,size_mk]; omega),ByteArray.mk_append_mk]
end Go.Proofs.YtlmjeackfepllaaGreatDoor
namespace Go.Proofs.YtlmjeackfepllaaGreatDoor.Mem
open Go.RowKit
theorem below_box {w0 w : World} (h : Below w0.heap.size w0 w) (o : Obj) : Below w0.heap.size w0 (w.alloc o) := h.alloc h.size o
theorem bcell {W w1 : World} (hb : Below W.heap.size W w1) : (∀ b o,b < W.heap.size → w1.cell? ⟨b,o,none⟩ = W.cell? ⟨b,o,none⟩) ∧ (∀ b o,b < W.heap.size → w1.frozen? ⟨b,o,none⟩ = W.frozen? ⟨b,o,none⟩) :=
 ⟨fun b o h => hb.cell (p := ⟨b,o,none⟩) h,fun b o h => hb.frozen (p := ⟨b,o,none⟩) h⟩
theorem cell_lt {u : World} {b o : Nat} {v : Value} (h : u.cell? ⟨b,o,none⟩ = some v) : b < u.heap.size := by
 by_cases k : b < u.heap.size
 · exact k
 ·
  exfalso
  simp [World.cell?,Array.getElem?_eq_none (Nat.le_of_not_lt k)] at h
theorem bchain {w0 u v : World} (h : Below w0.heap.size w0 u) (k : Below u.heap.size u v) : Below w0.heap.size w0 v := h.trans (k.mono h.size)
theorem bset {w0 u : World} {p : Nat} (h : Below w0.heap.size w0 u) (hp : w0.heap.size ≤ p) (o : Nat) (x : Value) : Below w0.heap.size w0 (u.setCell ⟨p,o,none⟩ x) := h.setCell hp x
theorem heap_old {x : World} {o o' : Obj} {g : Nat} (h : x.heap[g]? = some o) : (x.alloc o').heap[g]? = some o := by
 have hg : g < x.heap.size := by
  obtain ⟨hg,_⟩ := Array.getElem?_eq_some_iff.1 h
  exact hg
 rw [← h]
 exact (((Below.refl x.heap.size x).alloc (Nat.le_refl _) o').block g hg)
theorem heap_next (x : World) (o o' : Obj) : ((x.alloc o).alloc o').heap[x.heap.size + 1]? = some o' := by
 have h := heap_alloc_new (x.alloc o) o'
 have e : (x.alloc o).heap.size = x.heap.size + 1 := by simp
 rw [e] at h
 exact h
theorem blk_keep {X y : World} {row : Option Nat} {g : Nat} {o : Obj} (gr : X.grownBy y row) (h : X.heap[g]? = some o) (hne : some g ≠ row) : y.heap[g]? = some o := by
 have hg : g < X.heap.size := by
  obtain ⟨hg,_⟩ := Array.getElem?_eq_some_iff.1 h
  exact hg
 rw [gr.block g hg hne]
 exact h
end Go.Proofs.YtlmjeackfepllaaGreatDoor.Mem
namespace Go.Proofs.YtlmjeackfepllaaGreatDoor.By
open Go.RowKit
open Mem
def bv (b : UInt8) : Value := .int .u8 (b.toNat : Int)
def Seg (w : World) (ao : Option Addr) (bs : List UInt8) : Prop := bs = [] ∨ ∃ b off,ao = some ⟨b,off,none⟩ ∧ ∀ (k : Nat) (hk : k < bs.length),w.cell? ⟨b,off + k,none⟩ = some (bv bs[k])
theorem Seg.below {w v : World} {ao : Option Addr} {rs : List UInt8} (h : Seg w ao rs) (k : Below w.heap.size w v) : Seg v ao rs := by
 rcases h with h | ⟨b,off,e,h⟩
 · exact .inl h
 · exact .inr ⟨b,off,e,fun i hi => by rw [(bcell k).1 _ _ (cell_lt (h i hi))]; exact h i hi⟩
structure Ls (w : World) (ao : Option Addr) (n cap : Nat) (rs : List UInt8) : Prop where
 len : n = rs.length
 fits : n ≤ cap
 reach : cap ≤ 9223372036854775807
 nil : ao = none → cap = 0
 seg : Seg w ao rs
theorem Ls.below {w v : World} {ao : Option Addr} {n cap : Nat} {rs : List UInt8} (h : Ls w ao n cap rs) (k : Below w.heap.size w v) : Ls v ao n cap rs := ⟨h.len,h.fits,h.reach,h.nil,h.seg.below k⟩
theorem Ls.at {w : World} {ao : Option Addr} {n cap : Nat} {rs : List UInt8} (h : Ls w ao n cap rs) (hn : 0 < n) : ∃ b off,ao = some ⟨b,off,none⟩ := by
 rcases h.seg with e | ⟨b,off,e,_⟩
 ·
  have := h.len
  rw [e] at this
  simp at this
  omega
 · exact ⟨b,off,e⟩
theorem Ls.row {w : World} {b off n cap : Nat} {rs : List UInt8} (h : Ls w (some ⟨b,off,none⟩) n cap rs) (k : Nat) (hk : k < rs.length) : w.cell? ⟨b,off + k,none⟩ = some (bv rs[k]) := by
 rcases h.seg with e | ⟨b',off',e,hs⟩
 ·
  subst e
  simp at hk
 ·
  cases e
  exact hs k hk
theorem ls_nil (w : World) : Ls w none 0 0 [] := ⟨rfl,Nat.le_refl _,by omega,fun _ => rfl,.inl rfl⟩
theorem und : Tryz.prog.underlying 59 = some (.slice (Tryz.prog.elem 59)) := by kernel_rfl
theorem size (u : World) : (sizeOf (Tryz.prog.elem 59)).run Tryz.prog u = .ok 1 u := by
 have h : (Tryz.prog.info? (Tryz.prog.elem 59)).map (·.size) = some 1 := by kernel_rfl
 obtain ⟨i,hi,hs⟩ := Option.map_eq_some_iff.1 h
 simp [sizeOf,typeInfo,hi,hs]
theorem Ls.to {w : World} {ao : Option Addr} {n cap : Nat} {rs : List UInt8} (h : Ls w ao n cap rs) (k : Nat) (hk : k ≤ n) :
  (∀ u,(Instr.slice 59 (.slice ao n cap) none (some (.int .i64 (k : Int))) none).run Tryz.prog u = .ok (.slice ao k cap) u) ∧ Ls w ao k cap (rs.take k) := by
 have hl := h.len
 have hf := h.fits
 refine ⟨fun u => ?_,⟨by rw [List.length_take]; omega,by omega,h.reach,h.nil,?_⟩⟩
 ·
  rw [run_slice_h u 59 ao n cap und .i64 k (by omega) (by omega),size]
  have e : Option.map (fun x : Addr => x.add 0) ao = ao := by cases ao <;> simp [Addr.add]
  simp [Result.andThen,sliced,e]
 ·
  rcases h.seg with e | ⟨b,off,e,hc⟩
  · exact .inl (by rw [e]; simp)
  ·
   refine .inr ⟨b,off,e,fun j hj => ?_⟩
   rw [List.length_take] at hj
   rw [List.getElem_take]
   exact hc j (by omega)
theorem Ls.from {w : World} {ao : Option Addr} {n cap : Nat} {rs : List UInt8} (h : Ls w ao n cap rs) (k : Nat) (hk : k ≤ n) :
  ∃ ao2 cap2,(∀ u,(Instr.slice 59 (.slice ao n cap) (some (.int .i64 (k : Int))) none none).run Tryz.prog u = .ok (.slice ao2 (n - k) cap2) u) ∧ Ls w ao2 (n - k) cap2 (rs.drop k) ∧ (k < n → ∀ b off,ao = some ⟨b,off,none⟩ → ao2 = some ⟨b,off + k,none⟩) := by
 have hl := h.len
 have hf := h.fits
 refine ⟨if cap = k then ao else ao.map (·.add k),cap - k,fun u => ?_,⟨by rw [List.length_drop]; omega,by omega,by have := h.reach; omega,?_,?_⟩,fun hkn b off e => by rw [if_neg (by omega),e]; simp only [Option.map_some,Go.WideShapes.add_plain]⟩
 ·
  rw [run_slice_l u 59 ao n cap und .i64 k (by omega) (by omega),size]
  simp [Result.andThen,sliced]
 ·
  by_cases e : cap = k
  · omega
  ·
   rw [if_neg e]
   cases ao with
   | none => have := h.nil rfl; omega
   | some a => exact fun k => by cases k
 ·
  by_cases hkn : k = n
  · exact .inl (List.drop_eq_nil_of_le (by omega))
  ·
   rcases h.seg with e | ⟨b,off,rfl,hc⟩
   · exact .inl (by rw [e]; simp)
   ·
    refine .inr ⟨b,off + k,?_,fun j hj => ?_⟩
    ·
     rw [if_neg (by omega)]
     simp only [Option.map_some,Go.WideShapes.add_plain]
    ·
     rw [List.length_drop] at hj
     rw [List.getElem_drop,Nat.add_assoc]
     exact hc (k + j) (by omega)
theorem Ls.mid {w : World} {ao : Option Addr} {n cap : Nat} {rs : List UInt8} (h : Ls w ao n cap rs) (k m : Nat) (hkm : k ≤ m) (hm : m ≤ n) :
  ∃ ao2 cap2,(∀ u,(Instr.slice 59 (.slice ao n cap) (some (.int .i64 (k : Int))) (some (.int .i64 (m : Int))) none).run Tryz.prog u = .ok (.slice ao2 (m - k) cap2) u) ∧ Ls w ao2 (m - k) cap2 ((rs.take m).drop k) := by
 have hl := h.len
 have hf := h.fits
 refine ⟨if cap = k then ao else ao.map (·.add k),cap - k,fun u => ?_,⟨by rw [List.length_drop,List.length_take]; omega,by omega,by have := h.reach; omega,?_,?_⟩⟩
 ·
  rw [run_slice_lh u 59 ao n cap und .i64 .i64 k m (by omega) (by omega) (by omega),size]
  simp [Result.andThen,sliced]
 ·
  by_cases e : cap = k
  · omega
  ·
   rw [if_neg e]
   cases ao with
   | none => have := h.nil rfl; omega
   | some a => exact fun k => by cases k
 ·
  by_cases hkn : k = m
  · exact .inl (List.drop_eq_nil_of_le (by rw [List.length_take]; omega))
  ·
   rcases h.seg with e | ⟨b,off,rfl,hc⟩
   · exact .inl (by rw [e]; simp)
   ·
    refine .inr ⟨b,off + k,?_,fun j hj => ?_⟩
    ·
     rw [if_neg (by omega)]
     simp only [Option.map_some,Go.WideShapes.add_plain]
    ·
     rw [List.length_drop,List.length_take] at hj
     rw [List.getElem_drop,List.getElem_take,Nat.add_assoc]
     exact hc (k + j) (by omega)
theorem one_cell (rs : List UInt8) : ∀ v ∈ rs.map bv,v.oneCell' = true := by
 intro v hv
 obtain ⟨r,_,rfl⟩ := List.mem_map.1 hv
 rfl
theorem news_of {w : World} {b off : Nat} {rs : List UInt8} (h : ∀ (k : Nat) (hk : k < rs.length),w.cell? ⟨b,off + k,none⟩ = some (bv rs[k])) (j : Nat) (u : Value) (hu : (rs.map bv)[j]? = some u) : w.cell? ((⟨b,off,none⟩ : Addr).add j) = some u := by
 obtain ⟨hj,e⟩ := List.getElem?_eq_some_iff.1 hu
 rw [List.length_map] at hj
 rw [List.getElem_map] at e
 rw [Go.WideShapes.add_plain,h j hj,e]
def Block (w : World) (g : Nat) (bs : List UInt8) : Prop := w.heap[g]? = some (.cells (bs.map bv).toArray 5 (0,0))
theorem Block.lt {w : World} {g : Nat} {bs : List UInt8} (h : Block w g bs) : g < w.heap.size := by
 obtain ⟨hg,_⟩ := Array.getElem?_eq_some_iff.1 h
 exact hg
theorem Block.below {w u : World} {g : Nat} {bs : List UInt8} (h : Block w g bs) (k : Below w.heap.size w u) : Block u g bs := (k.block g h.lt).trans h
theorem Block.row {w : World} {g : Nat} {bs : List UInt8} (h : Block w g bs) (k : Nat) (hk : k < bs.length) : w.cell? ⟨g,k,none⟩ = some (bv bs[k]) := by
 rw [cell_of_row w g _ _ _ _ h]
 simp [hk]
theorem Block.frozen {w : World} {g : Nat} {bs : List UInt8} (h : Block w g bs) (k : Nat) : w.frozen? ⟨g,k,none⟩ = false := frozen_of_row w g k _ _ h
theorem Block.ls {w : World} {g : Nat} {bs : List UInt8} (h : Block w g bs) (hm : bs.length ≤ 9223372036854775807) : Ls w (some ⟨g,0,none⟩) bs.length bs.length bs :=
 ⟨rfl,Nat.le_refl _,hm,(fun k => by cases k),.inr ⟨g,0,rfl,fun k hk => by rw [Nat.zero_add]; exact h.row k hk⟩⟩
theorem Block.store {w : World} {g : Nat} {bs : List UInt8} (h : Block w g bs) (k : Nat) (v : UInt8) : Block (w.setCell ⟨g,k,none⟩ (bv v)) g (bs.set k v) := by
 have h1 := heap_setCell_same _ g k _ _ (bv v) h
 unfold Block
 rw [h1]
 simp only [List.setIfInBounds_toArray,List.map_set]
def zeros (n : Nat) : Array Value := ((List.replicate n (0 : UInt8)).map bv).toArray
theorem info : (Tryz.prog.info? 5).map (fun i => (i.zero,i.size,i.bytes)) = some (some (.int .u8 0),1,1) := by kernel_rfl
theorem made (n : Nat) : madeCells (Value.int .u8 0).cells (n * 1) = zeros n := by
 apply Array.ext_getElem?
 intro j
 rw [Nat.mul_one]
 by_cases hj : j < n
 ·
  unfold madeCells zeros
  rw [Array.getElem?_map,Array.getElem?_range,if_pos hj,List.getElem?_toArray,List.getElem?_map,List.getElem?_replicate,if_pos hj]
  simp only [Option.map_some]
  rw [show (Value.int .u8 0).cells.size = 1 from rfl,Nat.mod_one]
  rfl
 ·
  rw [Array.getElem?_eq_none (by rw [size_madeCells]; omega),Array.getElem?_eq_none]
  unfold zeros
  rw [List.size_toArray,List.length_map,List.length_replicate]
  omega
theorem make (n : Nat) (hn : n ≤ 140737488355328) (u : World) : (Instr.makeSlice 59 (.int .i64 (n : Int)) (.int .i64 (n : Int))).run Tryz.prog u =
  .ok (.slice (some ⟨u.heap.size,0,none⟩) n n) (u.alloc (.cells (zeros n) 5)) := by
 obtain ⟨i0,hi,hz0,hz1,hz2⟩ := info_parts info
 have h := run_make (P := Tryz.prog) u 59 5 i0 (.int .u8 0) Tryz.underlying59 hi hz0 .i64 .i64 (n : Int) (n : Int) (by omega) (Int.le_refl _) (by rw [hz2]; omega) (by omega)
 rw [hz1,Int.toNat_natCast,made] at h
 exact h
theorem block_made (u : World) (n : Nat) : Block (u.alloc (.cells (zeros n) 5)) u.heap.size (List.replicate n 0) := heap_alloc_new u _
theorem sizeZ : (Tryz.prog.info? 5).map (·.size) = some 1 := by kernel_rfl
theorem copy (u : World) (g o : Nat) (hd ts : List UInt8) (dCap : Nat) (ao : Option Addr) (n cap : Nat) (rs : List UInt8) (hb : Block u g (hd ++ List.replicate n 0 ++ ts)) (ho : o = hd.length) (hn : n = rs.length) (hs : Seg u ao rs) (da : Option Addr) (hda : 0 < n → da = some ⟨g,o,none⟩) :
  ∃ u',(Builtin.copy_ #[59,59] 3 #[.slice da (n + ts.length) dCap,.slice ao n cap]).run Tryz.prog u = .ok (goInt n) u' ∧ Block u' g (hd ++ rs ++ ts) ∧ (∀ B w0,Below B w0 u → B ≤ g → Below B w0 u') ∧ u'.heap.size = u.heap.size := by
 obtain ⟨i0,hi,hiK⟩ := Option.map_eq_some_iff.1 sizeZ
 have hmin : Nat.min n (n + ts.length) = n := Nat.min_eq_left (by omega)
 by_cases h0 : n = 0
 ·
  subst h0
  have e : rs = [] := List.length_eq_zero_iff.1 hn.symm
  subst e
  refine ⟨u,?_,by simpa using hb,fun _ _ h _ => h,rfl⟩
  have hl : ∀ (x : Addr),(loadCells x 0).run Tryz.prog u = .ok #[] u := fun x => by simpa using run_loadCells_list (P := Tryz.prog) u x [] (by simp)
  cases ao <;> cases da <;> simp [Builtin.copy_,run_underlying Tryz.underlying59,Builtin.lenOf,Builtin.firstCells,sizeOf,typeInfo,hi,storeCells,hl]
 ·
  obtain rfl := hda (by omega)
  rcases hs with e | ⟨b,off,rfl,hc⟩
  ·
   rw [e] at hn
   exact absurd hn h0
  ·
   have hl := run_loadCells_list (P := Tryz.prog) u ⟨b,off,none⟩ (rs.map bv) (fun j v hv => news_of hc j v hv)
   have hst := run_storeCells_at Tryz.prog g o 5 (rs.map bv) 0 _ u hb (by
    simp
    omega) (one_cell rs)
   have e : (((hd ++ List.replicate n (0 : UInt8) ++ ts).map bv).toArray.toList.take (o + 0) ++ rs.map bv ++ ((hd ++ List.replicate n (0 : UInt8) ++ ts).map bv).toArray.toList.drop (o + 0 + (rs.map bv).length)) = (hd ++ rs ++ ts).map bv := by
    rw [List.toList_toArray,Nat.add_zero,List.length_map,← hn,ho]
    simp only [List.map_append,List.append_assoc]
    have e2 : (hd.map bv ++ ((List.replicate n (0 : UInt8)).map bv ++ ts.map bv)).drop (hd.length + n) = ts.map bv := by
     rw [← List.append_assoc]
     exact List.drop_left' (by simp)
    rw [List.take_left' (by simp),e2]
   rw [e] at hst
   refine ⟨u.setRow g ((hd ++ rs ++ ts).map bv).toArray,?_,setRow_heap u g _ _ 5 _ hb,fun B w0 h hB => below_setRow h hB _,by simp [World.setRow]⟩
   rw [List.length_map,← hn] at hl
   simp [Builtin.copy_,run_underlying Tryz.underlying59,Builtin.lenOf,Builtin.firstCells,sizeOf,typeInfo,hi,hiK,hmin,hl,hst]
end Go.Proofs.YtlmjeackfepllaaGreatDoor.By
namespace Go.Proofs.YtlmjeackfepllaaGreatDoor
open Go.RowKit
open Mem Pk
theorem zz_lib (n : Int) : zz n = Lib.zigzag n := by
 unfold zz Lib.zigzag
 split <;> split <;> omega
theorem pack_folded (n : Int) (hn : Fit n) (w : World) : Calls Tryz.prog 176 #[.int .i64 n] w fun e w' => e = .returned (.int .u64 (zz n : Int)) ∧ w' = w := by
 unfold Fit at hn
 by_cases h : n < 0
 ·
  have hz := Lib.zigzag_neg hn.1 h
  rw [← zz_lib] at hz
  have hm : ¬ IntKind.u64.signed = true := by decide
  go_enter Tryz.func176,Tryz.ntmps176
  go_wp2
  go_ret
  exact ⟨rfl,rfl⟩
 ·
  have hz : (zz n : Int) = n * 2 := by
   unfold zz
   rw [if_neg h]
   omega
  rw [hz]
  go_enter Tryz.func176,Tryz.ntmps176
  go_wp2
  go_ret
  exact ⟨rfl,rfl⟩
theorem vbF_len_low {f u : Nat} (h : u < 128) : (vbF (f + 1) u).length = 1 := by rw [vbF_low h]; rfl
theorem vbF_len_high {f u : Nat} (h : ¬ u < 128) : (vbF (f + 1) u).length = 1 + (vbF f (u / 128)).length := by rw [vbF_high h,List.length_cons]; omega
theorem pack_width (u : Nat) (hu : u < 18446744073709551616) (w : World) : Calls Tryz.prog 177 #[.int .u64 (u : Int)] w fun e w' => e = .returned (.int .i64 (wd u : Int)) ∧ w' = w := by
 have HU := Lib.hid hu
 clear hu
 go_enter Tryz.func177,Tryz.ntmps177
 go_wp2
 go_loop [0,3] (fun x k => ∃ (c v : Nat),x = .int .u64 (v : Int) ∧ k = .int .i64 (c : Int) ∧ c ≤ 10 ∧ 1 ≤ c ∧ v < 18446744073709551616 ∧ Hid (v < lim c) ∧ Hid (c + (vbF (11 - c) v).length = wd u + 1)) (fun _ k => (10 - intOf k).toNat)
 case atStart => exact ⟨1,u,rfl,rfl,by omega,by omega,HU.out,Lib.hid (by rw [lim_one]; exact HU.out),Lib.hid (by unfold wd vb; simp; omega)⟩
 case round =>
  obtain ⟨c,v,rfl,rfl,hc,hc1,hv,HV,HL⟩ := hrel
  have HVn := Lib.hid hv
  clear hv
  by_cases hlt : v < 128
  ·
   have HE : Hid ((c : Int) = (wd u : Int)) := Lib.hid (by
    have h := HL.out
    rw [show 11 - c = (10 - c) + 1 by omega,vbF_len_low hlt] at h
    omega)
   have a1 : ¬ (128 : Int) ≤ (v : Int) := by omega
   go_wp2
   go_ret
   exact ⟨ret_int HE.out,rfl⟩
  ·
   have hi9 : c < 10 := by
    by_cases h9 : c < 10
    · exact h9
    ·
     obtain rfl : c = 10 := by omega
     have := HV.out
     rw [lim_ten] at this
     omega
   have HV2 : Hid (v / 128 < lim (c + 1)) := Lib.hid (by
    have := HV.out
    rw [lim_step hi9] at this
    omega)
   have HL2 : Hid (c + 1 + (vbF (11 - (c + 1)) (v / 128)).length = wd u + 1) := Lib.hid (by
    have h := HL.out
    rw [show 11 - c = (11 - (c + 1)) + 1 by omega,vbF_len_high hlt] at h
    omega)
   have a1 : (128 : Int) ≤ (v : Int) := by omega
   go_wp2
   go_round
   case rel => exact ⟨c + 1,v / 128,by simp,by go_num,by omega,by omega,(by have := HVn.out; omega),HV2,HL2⟩
   case measure => simp [intOf]; omega
theorem and127 (v : Nat) (hv : v < 18446744073709551616) : bits .and .u64 (v : Int) 127 = ((v % 128 : Nat) : Int) := by
 have h := u64_and_nat v 127 hv (by omega)
 have e : v &&& 127 = v % 128 := Nat.and_two_pow_sub_one_eq_mod v 7
 rw [e] at h
 exact h
theorem set_at {bs pre : List UInt8} {L m i : Nat} {x : UInt8} (hm : m = bs.length) (hi : pre.length = i) : (bs ++ pre ++ List.replicate (L + 1) 0).set (m + i) x = bs ++ (pre ++ [x]) ++ List.replicate L 0 := by
 rw [List.set_append_right _ _ (by rw [List.length_append]; omega),List.length_append,← hm,hi,Nat.sub_self,List.replicate_succ,List.set_cons_zero]
 simp
set_option maxHeartbeats 2000000 in
theorem pack_num (bs : List UInt8) (n : Int) (hn : Fit n) (ao : Option Addr) (m cap : Nat) (w : World) (hL : By.Ls w ao m cap bs) (hm : m ≤ 1000000000000) :
  Calls Tryz.prog 147 #[.slice ao m cap,.int .i64 n] w fun e w' => (∃ g,e = .returned (.slice (some ⟨g,0,none⟩) (m + wd (zz n)) (m + wd (zz n))) ∧ w.heap.size ≤ g ∧ By.Block w' g (bs ++ vb (zz n))) ∧ Below w.heap.size w w' := by
 have HF := Lib.hid hn
 have HL := Lib.hid hL
 have HLen := Lib.hid hL.len
 obtain ⟨u,hu⟩ : ∃ u,zz n = u := ⟨_,rfl⟩
 have hul : u < 18446744073709551616 := hu ▸ zz_lt hn
 have HU := Lib.hid hu
 obtain ⟨d,hd⟩ : ∃ d,wd u = d := ⟨_,rfl⟩
 have hd10 : d ≤ 10 := by rw [← hd]; exact vbF_len 10 u
 have hd1 : 1 ≤ d := by rw [← hd]; exact vbF_pos
 have HD := Lib.hid hd
 have hmk := By.make (m + d) (by omega)
 rw [show ((m + d : Nat) : Int) = (m : Int) + (d : Int) from by omega] at hmk
 have hb0 := By.block_made w (m + d)
 rw [← List.replicate_append_replicate] at hb0
 have hB1 := (Below.refl w.heap.size w).alloc (Nat.le_refl _) (.cells (By.zeros (m + d)) 5)
 obtain ⟨W1,hcp,hblk,hbel,hsz⟩ := By.copy (w.alloc (.cells (By.zeros (m + d)) 5)) w.heap.size 0 [] (List.replicate d 0) (m + d) ao m cap bs (by simpa using hb0) rfl hL.len (hL.below hB1).seg (some ⟨w.heap.size,0,none⟩) (fun _ => rfl)
 rw [List.length_replicate] at hcp
 rw [List.nil_append] at hblk
 have HB1 := Lib.hid (hbel _ _ hB1 (Nat.le_refl _))
 have HBk := Lib.hid hblk
 have hcap := hL.reach
 have HUl := Lib.hid hul
 rw [hu,hd]
 clear hL hn hu hd hb0 hblk hbel hsz hB1 hul
 go_enter Tryz.func147,Tryz.ntmps147
 go_wp2_with fail
 refine (pack_folded n HF.out w).mono ?_
 rintro e w2 ⟨rfl,rfl⟩
 rename World => w
 rw [HU.out]
 go_wp2_with fail
 refine (pack_width u HUl.out w).mono ?_
 rintro e w3 ⟨rfl,rfl⟩
 rename World => w
 rw [HD.out]
 go_wp2_with fail
 clear hmk hcp
 go_loopw [5,7] (fun x k wr => ∃ (i v L : Nat) (pre : List UInt8),x = .int .u64 (v : Int) ∧ k = .int .i64 ((m : Int) + (i : Int)) ∧ i + L + 1 = d ∧ Hid (v < 18446744073709551616 ∧ v < lim (i + 1)) ∧ Hid (pre.length = i) ∧ Hid (vb u = pre ++ vbF (10 - i) v) ∧ Hid ((vbF (10 - i) v).length = L + 1) ∧ Hid (By.Block wr w.heap.size (bs ++ pre ++ List.replicate (L + 1) 0)) ∧ Hid (Below w.heap.size w wr)) (fun _ k _ => m + d - (intOf k).toNat)
 case atStart => exact ⟨0,u,d - 1,[],rfl,by go_num,by omega,Lib.hid ⟨HUl.out,by rw [lim_one]; exact HUl.out⟩,Lib.hid rfl,Lib.hid rfl,Lib.hid (by have h := HD.out; unfold wd vb at h; rw [Nat.sub_zero,h]; omega),Lib.hid (by rw [List.append_nil,show d - 1 + 1 = d by omega]; exact HBk.out),HB1⟩
 case round =>
  obtain ⟨i,v,L,pre,rfl,rfl,hil,HV,HPl,HVb,HLn,HBl,HB⟩ := hrel
  have hlen9 : m + i < (bs ++ pre ++ List.replicate (L + 1) (0 : UInt8)).length := by
   rw [List.length_append,List.length_append,List.length_replicate,← HLen.out,HPl.out]
   omega
  have hc := HBl.out.row (m + i) hlen9
  have hf := HBl.out.frozen (m + i)
  obtain ⟨z,hz⟩ : ∃ z,By.bv (bs ++ pre ++ List.replicate (L + 1) (0 : UInt8))[m + i] = z := ⟨_,rfl⟩
  rw [hz] at hc
  clear hz hlen9
  by_cases hL0 : L = 0
  ·
   subst hL0
   have HS : Hid (v < 128) := Lib.hid (by
    by_cases hs : v < 128
    · exact hs
    ·
     have h := HLn.out
     rw [show 10 - i = (9 - i) + 1 by omega,vbF_len_high hs] at h
     by_cases h9 : i = 9
     ·
      have := HV.out.2
      rw [h9,lim_ten] at this
      omega
     ·
      have := vbF_pos (f := 8 - i) (u := v / 128)
      rw [show 8 - i + 1 = 9 - i by omega] at this
      omega)
   have HW8 : Hid (IntKind.u8.wrap (v : Int) = (v : Int)) := Lib.hid (by
    rw [IntKind.wrap_u8]
    have := HS.out
    omega)
   have hw8 := HW8.out
   have hdi : (m : Int) + (d : Int) - 1 = (m : Int) + (i : Int) := by omega
   have a1 : ¬ (m : Int) + (i : Int) < (m : Int) + (d : Int) - 1 := by omega
   go_wp2_with fail
   go_ret
   refine ⟨⟨w.heap.size,rfl,Nat.le_refl _,?_⟩,HB.out.setCell (p := ⟨w.heap.size,m + i,none⟩) (Nat.le_refl _) _⟩
   have h := HBl.out.store (m + i) (UInt8.ofNat v)
   rw [set_at HLen.out HPl.out] at h
   have e1 : By.bv (UInt8.ofNat v) = .int .u8 (v : Int) := by
    unfold By.bv
    rw [byte_nat (by have := HS.out; omega)]
   rw [e1] at h
   have e2 : vb u = pre ++ [UInt8.ofNat v] := by
    rw [HVb.out,show 10 - i = (9 - i) + 1 by omega,vbF_low HS.out]
   rw [e2]
   simpa using h
  ·
   have HS : Hid (¬ v < 128) := Lib.hid (fun hs => by
    have h := HLn.out
    rw [show 10 - i = (9 - i) + 1 by omega,vbF_len_low hs] at h
    omega)
   obtain ⟨r,hr⟩ : ∃ r,v % 128 = r := ⟨_,rfl⟩
   obtain ⟨q,hq⟩ : ∃ q,v / 128 = q := ⟨_,rfl⟩
   have hr128 : r < 128 := by omega
   have hand := and127 v HV.out.1
   rw [hr] at hand
   have hw8 : IntKind.u8.wrap (r : Int) = (r : Int) := by
    rw [IntKind.wrap_u8]
    omega
   have hor : bits .or .u8 (r : Int) 128 = (r : Int) + 128 := u8_or128_right _ (by omega) (by omega)
   have hdiv : (v : Int) / 128 = (q : Int) := by omega
   have HR := Lib.hid hr
   have HQ := Lib.hid hq
   obtain ⟨K,rfl⟩ : ∃ K,L = K + 1 := ⟨L - 1,by omega⟩
   have HV2 : Hid (q < 18446744073709551616 ∧ q < lim (i + 1 + 1)) := Lib.hid (by
    have h1 := HV.out.1
    have h2 := HV.out.2
    rw [lim_step (by omega)] at h2
    omega)
   have HVb2 : Hid (vb u = (pre ++ [UInt8.ofNat (r + 128)]) ++ vbF (10 - (i + 1)) q) := Lib.hid (by
    rw [HVb.out,show 10 - i = (10 - (i + 1)) + 1 by omega,vbF_high HS.out,HR.out,HQ.out,List.append_assoc]
    rfl)
   have HLn2 : Hid ((vbF (10 - (i + 1)) q).length = K + 1) := Lib.hid (by
    have h := HLn.out
    rw [show 10 - i = (10 - (i + 1)) + 1 by omega,vbF_len_high HS.out,HQ.out] at h
    omega)
   have a1 : (m : Int) + (i : Int) < (m : Int) + (d : Int) - 1 := by omega
   clear hr hq
   go_wp2_with fail
   go_roundw
   case rel =>
    refine ⟨i + 1,q,K,pre ++ [UInt8.ofNat (r + 128)],rfl,by go_num,by omega,HV2,Lib.hid (by rw [List.length_append,HPl.out]; rfl),HVb2,HLn2,Lib.hid ?_,Lib.hid (HB.out.setCell (p := ⟨w.heap.size,m + i,none⟩) (Nat.le_refl _) _)⟩
    have h := HBl.out.store (m + i) (UInt8.ofNat (r + 128))
    rw [set_at HLen.out HPl.out] at h
    have e1 : By.bv (UInt8.ofNat (r + 128)) = .int .u8 ((r : Int) + 128) := by
     unfold By.bv
     rw [byte_nat (by omega)]
     simp
    rw [e1] at h
    exact h
   case measure => simp [intOf]; omega
end Go.Proofs.YtlmjeackfepllaaGreatDoor
namespace Go.Proofs.YtlmjeackfepllaaGreatDoor
open Go.RowKit
open Mem Pk
theorem By.copyS (u : World) (g o : Nat) (hd ts : List UInt8) (dCap : Nat) (s : ByteArray) (n : Nat) (hb : By.Block u g (hd ++ List.replicate n 0 ++ ts)) (ho : o = hd.length) (hn : n = s.size) (da : Option Addr) (hda : 0 < n → da = some ⟨g,o,none⟩) :
  ∃ u',(Builtin.copy_ #[59,9] 3 #[.slice da (n + ts.length) dCap,.string s]).run Tryz.prog u = .ok (goInt n) u' ∧ By.Block u' g (hd ++ txt s ++ ts) ∧ (∀ B w0,Below B w0 u → B ≤ g → Below B w0 u') ∧ u'.heap.size = u.heap.size := by
 obtain ⟨i0,hi,hiK⟩ := Option.map_eq_some_iff.1 By.sizeZ
 have hmin : Nat.min n (n + ts.length) = n := Nat.min_eq_left (by omega)
 have hcells : List.take n (List.map (fun b : UInt8 => Value.int .u8 (b.toNat : Int)) s.data.toList) = (txt s).map By.bv := by
  rw [List.take_of_length_le (by rw [List.length_map]; show (txt s).length ≤ n; rw [txt_len]; omega)]
  rfl
 by_cases h0 : n = 0
 ·
  subst h0
  have e : txt s = [] := List.length_eq_zero_iff.1 (by rw [txt_len]; exact hn.symm)
  refine ⟨u,?_,by rw [e]; simpa using hb,fun _ _ h _ => h,rfl⟩
  cases da <;> simp [Builtin.copy_,run_underlying Tryz.underlying59,Builtin.lenOf,Builtin.firstCells,sizeOf,typeInfo,hi,storeCells,← hn]
 ·
  obtain rfl := hda (by omega)
  have hst := run_storeCells_at Tryz.prog g o 5 ((txt s).map By.bv) 0 _ u hb (by
   simp [txt_len]
   omega) (By.one_cell (txt s))
  have e : (((hd ++ List.replicate n (0 : UInt8) ++ ts).map By.bv).toArray.toList.take (o + 0) ++ (txt s).map By.bv ++ ((hd ++ List.replicate n (0 : UInt8) ++ ts).map By.bv).toArray.toList.drop (o + 0 + ((txt s).map By.bv).length)) = (hd ++ txt s ++ ts).map By.bv := by
   rw [List.toList_toArray,Nat.add_zero,List.length_map,txt_len,← hn,ho]
   simp only [List.map_append,List.append_assoc]
   have e2 : (hd.map By.bv ++ ((List.replicate n (0 : UInt8)).map By.bv ++ ts.map By.bv)).drop (hd.length + n) = ts.map By.bv := by
    rw [← List.append_assoc]
    exact List.drop_left' (by simp)
   rw [List.take_left' (by simp),e2]
  rw [e] at hst
  refine ⟨u.setRow g ((hd ++ txt s ++ ts).map By.bv).toArray,?_,setRow_heap u g _ _ 5 _ hb,fun B w0 h hB => below_setRow h hB _,by simp [World.setRow]⟩
  obtain ⟨R,hR⟩ : ∃ R,((hd ++ txt s ++ ts).map By.bv).toArray = R := ⟨_,rfl⟩
  rw [hR] at hst ⊢
  simp [Builtin.copy_,run_underlying Tryz.underlying59,Builtin.lenOf,Builtin.firstCells,sizeOf,typeInfo,hi,hmin,← hn,hcells,hst]
set_option maxHeartbeats 2000000 in
theorem pack_text (bs : List UInt8) (s : ByteArray) (hs : s.size ≤ 1000000000000) (ao : Option Addr) (m cap : Nat) (w : World) (hL : By.Ls w ao m cap bs) (hm : m ≤ 1000000000000) :
  Calls Tryz.prog 149 #[.slice ao m cap,.string s] w fun e w' => (∃ g N,e = .returned (.slice (some ⟨g,0,none⟩) N N) ∧ N = (bs ++ vb (zz s.size) ++ txt s).length ∧ w.heap.size ≤ g ∧ By.Block w' g (bs ++ vb (zz s.size) ++ txt s)) ∧ Below w.heap.size w w' := by
 have HL := Lib.hid hL
 have HLen := Lib.hid hL.len
 have hcap := hL.reach
 obtain ⟨z,hz⟩ : ∃ z,s.size = z := ⟨_,rfl⟩
 have HZ := Lib.hid hz
 rw [hz] at hs
 clear hL
 go_enter Tryz.func149,Tryz.ntmps149
 go_wp2_with fail
 refine (pack_num bs (z : Int) ⟨by omega,by omega⟩ ao m cap w HL.out hm).mono ?_
 rintro e w1 ⟨⟨g,rfl,hg,hblk⟩,b1⟩
 obtain ⟨d,hd⟩ : ∃ d,wd (zz (z : Int)) = d := ⟨_,rfl⟩
 have hd10 : d ≤ 10 := by rw [← hd]; exact vbF_len 10 _
 have HD := Lib.hid hd
 rw [hd]
 have HHl : Hid ((bs ++ vb (zz (z : Int))).length = m + d) := Lib.hid (by
  rw [List.length_append,← HLen.out,← hd]
  rfl)
 have HBk := Lib.hid hblk
 have HB1 := Lib.hid b1
 have hs1 := b1.size
 clear hd hblk b1
 obtain ⟨h,hh⟩ : ∃ h,m + d = h := ⟨_,rfl⟩
 rw [hh]
 have hhb : h ≤ 1000000000010 := by omega
 rw [hh] at HHl
 clear hh
 have hmk := By.make (h + z) (by omega)
 rw [show ((h + z : Nat) : Int) = (h : Int) + (z : Int) from by omega] at hmk
 have hb0 := By.block_made w1 (h + z)
 rw [← List.replicate_append_replicate] at hb0
 have hB2 := (Below.refl w1.heap.size w1).alloc (Nat.le_refl _) (.cells (By.zeros (h + z)) 5)
 have hl1 : By.Ls w1 (some ⟨g,0,none⟩) h h (bs ++ vb (zz (z : Int))) := by
  have := HBk.out.ls (by rw [HHl.out]; omega)
  rw [HHl.out] at this
  exact this
 obtain ⟨W2,hcp,hblk2,hbel2,hsz2⟩ := By.copy (w1.alloc (.cells (By.zeros (h + z)) 5)) w1.heap.size 0 [] (List.replicate z 0) (h + z) (some ⟨g,0,none⟩) h h (bs ++ vb (zz (z : Int))) (by simpa using hb0) rfl HHl.out.symm (hl1.below hB2).seg (some ⟨w1.heap.size,0,none⟩) (fun _ => rfl)
 rw [List.length_replicate] at hcp
 rw [List.nil_append] at hblk2
 have hbw2 := hbel2 _ _ hB2 (Nat.le_refl _)
 have hlo : By.Ls W2 (some ⟨w1.heap.size,0,none⟩) (h + z) (h + z) (bs ++ vb (zz (z : Int)) ++ List.replicate z 0) := by
  have := hblk2.ls (by rw [List.length_append,HHl.out,List.length_replicate]; omega)
  rw [List.length_append,HHl.out,List.length_replicate] at this
  exact this
 obtain ⟨ao2,cap2,hsl,_,had⟩ := hlo.from h (by omega)
 rw [show h + z - h = z by omega] at hsl
 obtain ⟨W3,hcp3,hblk3,hbel3,hsz3⟩ := By.copyS W2 w1.heap.size h (bs ++ vb (zz (z : Int))) [] cap2 s z (by simpa using hblk2) HHl.out.symm HZ.out.symm ao2 (fun hp => by
  have := had (by omega) _ _ rfl
  rw [Nat.zero_add] at this
  exact this)
 rw [List.length_nil,Nat.add_zero] at hcp3
 rw [List.append_nil] at hblk3
 have HB3 := Lib.hid (hbel3 _ _ (bchain HB1.out hbw2) hs1)
 have HBk3 := Lib.hid hblk3
 clear hblk3 hbel3 hsz3 hblk2 hbel2 hsz2 hb0 hB2 hl1 hlo had hbw2
 go_wp2_with fail
 go_ret
 refine ⟨⟨w1.heap.size,h + z,rfl,?_,hs1,?_⟩,HB3.out⟩
 · rw [List.length_append,txt_len,HZ.out,HHl.out]
 ·
  rw [HZ.out]
  exact HBk3.out
end Go.Proofs.YtlmjeackfepllaaGreatDoor
namespace Go.Proofs.YtlmjeackfepllaaGreatDoor
open Go.RowKit
open Mem Pk
theorem pack_unfolded (u : Nat) (hu : u < 18446744073709551616) (w : World) : Calls Tryz.prog 193 #[.int .u64 (u : Int)] w fun e w' => e = .returned (.int .i64 (uz u)) ∧ w' = w := by
 obtain ⟨q,hq⟩ : ∃ q,u / 2 = q := ⟨_,rfl⟩
 have hqb : q ≤ 9223372036854775807 := by omega
 have hdiv : (u : Int) / 2 = (q : Int) := by omega
 have hand := Lib.u64_and1 (u : Int) (by omega) (by omega)
 by_cases h1 : u % 2 = 1
 ·
  have hm : (u : Int) % 2 = 1 := by omega
  rw [hm] at hand
  have hz : uz u = -(q : Int) - 1 := by
   unfold uz
   rw [if_pos h1,hq]
  have hnot := Lib.i64_not q (by omega)
  rw [hz]
  clear hq hu h1 hm hz
  go_enter Tryz.func193,Tryz.ntmps193
  go_wp2
  go_ret
  exact ⟨rfl,rfl⟩
 ·
  have hm : (u : Int) % 2 = 0 := by omega
  rw [hm] at hand
  have hz : uz u = (q : Int) := by
   unfold uz
   rw [if_neg h1,hq]
  rw [hz]
  clear hq hu h1 hm hz
  go_enter Tryz.func193,Tryz.ntmps193
  go_wp2
  go_ret
  exact ⟨rfl,rfl⟩
def numE : Int ⊕ (Nat × Nat) → Ending
 | .inl e => .returned (.tuple #[.int .i64 0,.int .i64 0,.int .i64 e])
 | .inr p => .returned (.tuple #[.int .i64 (uz p.1),.int .i64 (p.2 : Int),.int .i64 0])
def pw (k : Nat) : Nat := 128 ^ k
set_option maxHeartbeats 4000000 in
theorem pack_number (bs : List UInt8) (ao : Option Addr) (n cap : Nat) (w : World) (hL : By.Ls w ao n cap bs) :
  Calls Tryz.prog 174 #[.slice ao n cap] w fun e w' => e = numE (num bs) ∧ w' = w := by
 have HL := Lib.hid hL
 have HLen := Lib.hid hL.len
 have hfit := hL.fits
 have hcap := hL.reach
 clear hL
 go_enter Tryz.func174,Tryz.ntmps174
 go_wp2
 go_loop [5,6,7,10] (fun x _ _ i => ∃ (k u : Nat),x = .int .u64 (u : Int) ∧ i = .int .i64 (k : Int) ∧ k ≤ 9 ∧ k ≤ n ∧ Hid (u < pw k) ∧ Hid (rd k u (bs.drop k) = num bs)) (fun _ _ _ i => n - (intOf i).toNat)
 case atStart => exact ⟨0,0,rfl,rfl,by omega,by omega,Lib.hid (by decide),Lib.hid rfl⟩
 case round =>
  obtain ⟨k,u,rfl,rfl,hk9,hkn,HU,HR⟩ := hrel
  by_cases hlt : k < n
  ·
   have hkl : k < bs.length := HLen.out ▸ hlt
   obtain ⟨b,off,rfl⟩ := HL.out.at (by omega)
   have hc := HL.out.row k hkl
   obtain ⟨x,hx⟩ : ∃ x,bs[k] = x := ⟨_,rfl⟩
   have HDr : Hid (bs.drop k = x :: bs.drop (k + 1)) := Lib.hid (by rw [List.drop_eq_getElem_cons hkl,hx])
   rw [hx] at hc
   have hx256 : x.toNat ≤ 255 := by
    have := UInt8.toNat_lt x
    omega
   obtain ⟨c,hcx⟩ : ∃ c,x.toNat = c := ⟨_,rfl⟩
   unfold By.bv at hc
   rw [hcx] at hc hx256
   have HCx := Lib.hid hcx
   have hand := u8_and127 (c : Int) (by omega) (by omega)
   obtain ⟨r,hr⟩ : ∃ r,c % 128 = r := ⟨_,rfl⟩
   have hr128 : r ≤ 127 := by omega
   rw [show (c : Int) % 128 = (r : Int) by omega] at hand
   have HRc := Lib.hid hr
   clear hx hkl hcx hr
   rcases (by omega : k = 0 ∨ k = 1 ∨ k = 2 ∨ k = 3 ∨ k = 4 ∨ k = 5 ∨ k = 6 ∨ k = 7 ∨ k = 8 ∨ k = 9) with rfl | rfl | rfl | rfl | rfl | rfl | rfl | rfl | rfl | rfl
   ·
    have hub : u < 1 := HU.out
    obtain ⟨S,hS⟩ : ∃ S,u + r * 1 = S := ⟨_,rfl⟩
    have HSm := Lib.hid hS
    have HUb := Lib.hid hub
    rw [Nat.add_zero] at hc
    have hSb : S < 128 := by omega
    have HSb := Lib.hid hSb
    have hor : bits .or .u64 (u : Int) ((r : Int)) = (S : Int) := by
     rw [u64_orv0 _ _ (by omega) (by omega) (by omega) (by omega) (by omega)]
     omega
    by_cases hm : 128 ≤ c
    ·
     have HN : Hid (rd 1 S (bs.drop 1) = num bs) := Lib.hid (by
      have h := HR.out
      rw [HDr.out,rd_more (by omega) (by rw [HCx.out]; exact hm),HCx.out,HRc.out] at h
      rw [← HSm.out]
      exact h)
     have HPw : Hid (S < pw 1) := Lib.hid (by
      rw [show pw 1 = 128 by decide]
      exact HSb.out)
     have a1 : (128 : Int) ≤ (c : Int) := by omega
     clear hub hS hSb
     go_wp2
     go_round
     case rel => exact ⟨1,S,rfl,rfl,by omega,by omega,HPw,HN⟩
     case measure => simp [intOf]; omega
    have hrc : r = c := by
     have := HRc.out
     omega
    have a2 : ¬ (128 : Int) ≤ (c : Int) := by omega
    by_cases hc0 : c = 0
    ·
     have q0 : ((c : Int) == 0) = true := beq_iff_eq.2 (by omega)
     have HE : Hid (num bs = .inr (S,1)) := Lib.hid (by
      rw [← HR.out,HDr.out,rd_last (by rw [HCx.out]; omega) (by rw [HCx.out]; omega) (by rw [HCx.out]; omega),HCx.out,← HSm.out,hrc])
     clear hub hS hSb hrc hc0
     go_wp2_with fail
     refine (pack_unfolded S (Nat.lt_of_lt_of_le HSb.out (by omega)) w).mono ?_
     rintro e w1 ⟨rfl,rfl⟩
     rename World => w
     go_wp2_with fail
     go_ret3
     exact ⟨by rw [HE.out]; rfl,rfl⟩
    have q0 : ((c : Int) == 0) = false := beq_eq_false_iff_ne.2 (by omega)
    have HE : Hid (num bs = .inr (S,1)) := Lib.hid (by
     rw [← HR.out,HDr.out,rd_last (by rw [HCx.out]; omega) (by rw [HCx.out]; omega) (by rw [HCx.out]; omega),HCx.out,← HSm.out,hrc])
    clear hub hS hSb hrc hc0
    go_wp2_with fail
    refine (pack_unfolded S (Nat.lt_of_lt_of_le HSb.out (by omega)) w).mono ?_
    rintro e w1 ⟨rfl,rfl⟩
    rename World => w
    go_wp2_with fail
    go_ret3
    exact ⟨by rw [HE.out]; rfl,rfl⟩
   ·
    have hub : u < 128 := HU.out
    obtain ⟨S,hS⟩ : ∃ S,u + r * 128 = S := ⟨_,rfl⟩
    have HSm := Lib.hid hS
    have HUb := Lib.hid hub
    have hSb : S < 16384 := by omega
    have HSb := Lib.hid hSb
    have hor : bits .or .u64 (u : Int) ((r : Int) * 128) = (S : Int) := by
     rw [u64_orv7 _ _ (by omega) (by omega) (by omega) (by omega) (by omega)]
     omega
    by_cases hm : 128 ≤ c
    ·
     have HN : Hid (rd 2 S (bs.drop 2) = num bs) := Lib.hid (by
      have h := HR.out
      rw [HDr.out,rd_more (by omega) (by rw [HCx.out]; exact hm),HCx.out,HRc.out] at h
      rw [← HSm.out]
      exact h)
     have HPw : Hid (S < pw 2) := Lib.hid (by
      rw [show pw 2 = 16384 by decide]
      exact HSb.out)
     have a1 : (128 : Int) ≤ (c : Int) := by omega
     clear hub hS hSb
     go_wp2
     go_round
     case rel => exact ⟨2,S,rfl,rfl,by omega,by omega,HPw,HN⟩
     case measure => simp [intOf]; omega
    have hrc : r = c := by
     have := HRc.out
     omega
    have a2 : ¬ (128 : Int) ≤ (c : Int) := by omega
    by_cases hc0 : c = 0
    ·
     have HE : Hid (num bs = .inl 4) := Lib.hid (by
      rw [← HR.out,HDr.out,rd_zero (by rw [HCx.out]; exact hc0) (by omega)])
     have q0 : ((c : Int) == 0) = true := beq_iff_eq.2 (by omega)
     clear hub hS hSb hrc hc0
     go_wp2
     go_ret3
     exact ⟨by rw [HE.out]; rfl,rfl⟩
    have q0 : ((c : Int) == 0) = false := beq_eq_false_iff_ne.2 (by omega)
    have HE : Hid (num bs = .inr (S,2)) := Lib.hid (by
     rw [← HR.out,HDr.out,rd_last (by rw [HCx.out]; omega) (by rw [HCx.out]; omega) (by rw [HCx.out]; omega),HCx.out,← HSm.out,hrc])
    clear hub hS hSb hrc hc0
    go_wp2_with fail
    refine (pack_unfolded S (Nat.lt_of_lt_of_le HSb.out (by omega)) w).mono ?_
    rintro e w1 ⟨rfl,rfl⟩
    rename World => w
    go_wp2_with fail
    go_ret3
    exact ⟨by rw [HE.out]; rfl,rfl⟩
   ·
    have hub : u < 16384 := HU.out
    obtain ⟨S,hS⟩ : ∃ S,u + r * 16384 = S := ⟨_,rfl⟩
    have HSm := Lib.hid hS
    have HUb := Lib.hid hub
    have hSb : S < 2097152 := by omega
    have HSb := Lib.hid hSb
    have hor : bits .or .u64 (u : Int) ((r : Int) * 16384) = (S : Int) := by
     rw [u64_orv14 _ _ (by omega) (by omega) (by omega) (by omega) (by omega)]
     omega
    by_cases hm : 128 ≤ c
    ·
     have HN : Hid (rd 3 S (bs.drop 3) = num bs) := Lib.hid (by
      have h := HR.out
      rw [HDr.out,rd_more (by omega) (by rw [HCx.out]; exact hm),HCx.out,HRc.out] at h
      rw [← HSm.out]
      exact h)
     have HPw : Hid (S < pw 3) := Lib.hid (by
      rw [show pw 3 = 2097152 by decide]
      exact HSb.out)
     have a1 : (128 : Int) ≤ (c : Int) := by omega
     clear hub hS hSb
     go_wp2
     go_round
     case rel => exact ⟨3,S,rfl,rfl,by omega,by omega,HPw,HN⟩
     case measure => simp [intOf]; omega
    have hrc : r = c := by
     have := HRc.out
     omega
    have a2 : ¬ (128 : Int) ≤ (c : Int) := by omega
    by_cases hc0 : c = 0
    ·
     have HE : Hid (num bs = .inl 4) := Lib.hid (by
      rw [← HR.out,HDr.out,rd_zero (by rw [HCx.out]; exact hc0) (by omega)])
     have q0 : ((c : Int) == 0) = true := beq_iff_eq.2 (by omega)
     clear hub hS hSb hrc hc0
     go_wp2
     go_ret3
     exact ⟨by rw [HE.out]; rfl,rfl⟩
    have q0 : ((c : Int) == 0) = false := beq_eq_false_iff_ne.2 (by omega)
    have HE : Hid (num bs = .inr (S,3)) := Lib.hid (by
     rw [← HR.out,HDr.out,rd_last (by rw [HCx.out]; omega) (by rw [HCx.out]; omega) (by rw [HCx.out]; omega),HCx.out,← HSm.out,hrc])
    clear hub hS hSb hrc hc0
    go_wp2_with fail
    refine (pack_unfolded S (Nat.lt_of_lt_of_le HSb.out (by omega)) w).mono ?_
    rintro e w1 ⟨rfl,rfl⟩
    rename World => w
    go_wp2_with fail
    go_ret3
    exact ⟨by rw [HE.out]; rfl,rfl⟩
   ·
    have hub : u < 2097152 := HU.out
    obtain ⟨S,hS⟩ : ∃ S,u + r * 2097152 = S := ⟨_,rfl⟩
    have HSm := Lib.hid hS
    have HUb := Lib.hid hub
    have hSb : S < 268435456 := by omega
    have HSb := Lib.hid hSb
    have hor : bits .or .u64 (u : Int) ((r : Int) * 2097152) = (S : Int) := by
     rw [u64_orv21 _ _ (by omega) (by omega) (by omega) (by omega) (by omega)]
     omega
    by_cases hm : 128 ≤ c
    ·
     have HN : Hid (rd 4 S (bs.drop 4) = num bs) := Lib.hid (by
      have h := HR.out
      rw [HDr.out,rd_more (by omega) (by rw [HCx.out]; exact hm),HCx.out,HRc.out] at h
      rw [← HSm.out]
      exact h)
     have HPw : Hid (S < pw 4) := Lib.hid (by
      rw [show pw 4 = 268435456 by decide]
      exact HSb.out)
     have a1 : (128 : Int) ≤ (c : Int) := by omega
     clear hub hS hSb
     go_wp2
     go_round
     case rel => exact ⟨4,S,rfl,rfl,by omega,by omega,HPw,HN⟩
     case measure => simp [intOf]; omega
    have hrc : r = c := by
     have := HRc.out
     omega
    have a2 : ¬ (128 : Int) ≤ (c : Int) := by omega
    by_cases hc0 : c = 0
    ·
     have HE : Hid (num bs = .inl 4) := Lib.hid (by
      rw [← HR.out,HDr.out,rd_zero (by rw [HCx.out]; exact hc0) (by omega)])
     have q0 : ((c : Int) == 0) = true := beq_iff_eq.2 (by omega)
     clear hub hS hSb hrc hc0
     go_wp2
     go_ret3
     exact ⟨by rw [HE.out]; rfl,rfl⟩
    have q0 : ((c : Int) == 0) = false := beq_eq_false_iff_ne.2 (by omega)
    have HE : Hid (num bs = .inr (S,4)) := Lib.hid (by
     rw [← HR.out,HDr.out,rd_last (by rw [HCx.out]; omega) (by rw [HCx.out]; omega) (by rw [HCx.out]; omega),HCx.out,← HSm.out,hrc])
    clear hub hS hSb hrc hc0
    go_wp2_with fail
    refine (pack_unfolded S (Nat.lt_of_lt_of_le HSb.out (by omega)) w).mono ?_
    rintro e w1 ⟨rfl,rfl⟩
    rename World => w
    go_wp2_with fail
    go_ret3
    exact ⟨by rw [HE.out]; rfl,rfl⟩
   ·
    have hub : u < 268435456 := HU.out
    obtain ⟨S,hS⟩ : ∃ S,u + r * 268435456 = S := ⟨_,rfl⟩
    have HSm := Lib.hid hS
    have HUb := Lib.hid hub
    have hSb : S < 34359738368 := by omega
    have HSb := Lib.hid hSb
    have hor : bits .or .u64 (u : Int) ((r : Int) * 268435456) = (S : Int) := by
     rw [u64_orv28 _ _ (by omega) (by omega) (by omega) (by omega) (by omega)]
     omega
    by_cases hm : 128 ≤ c
    ·
     have HN : Hid (rd 5 S (bs.drop 5) = num bs) := Lib.hid (by
      have h := HR.out
      rw [HDr.out,rd_more (by omega) (by rw [HCx.out]; exact hm),HCx.out,HRc.out] at h
      rw [← HSm.out]
      exact h)
     have HPw : Hid (S < pw 5) := Lib.hid (by
      rw [show pw 5 = 34359738368 by decide]
      exact HSb.out)
     have a1 : (128 : Int) ≤ (c : Int) := by omega
     clear hub hS hSb
     go_wp2
     go_round
     case rel => exact ⟨5,S,rfl,rfl,by omega,by omega,HPw,HN⟩
     case measure => simp [intOf]; omega
    have hrc : r = c := by
     have := HRc.out
     omega
    have a2 : ¬ (128 : Int) ≤ (c : Int) := by omega
    by_cases hc0 : c = 0
    ·
     have HE : Hid (num bs = .inl 4) := Lib.hid (by
      rw [← HR.out,HDr.out,rd_zero (by rw [HCx.out]; exact hc0) (by omega)])
     have q0 : ((c : Int) == 0) = true := beq_iff_eq.2 (by omega)
     clear hub hS hSb hrc hc0
     go_wp2
     go_ret3
     exact ⟨by rw [HE.out]; rfl,rfl⟩
    have q0 : ((c : Int) == 0) = false := beq_eq_false_iff_ne.2 (by omega)
    have HE : Hid (num bs = .inr (S,5)) := Lib.hid (by
     rw [← HR.out,HDr.out,rd_last (by rw [HCx.out]; omega) (by rw [HCx.out]; omega) (by rw [HCx.out]; omega),HCx.out,← HSm.out,hrc])
    clear hub hS hSb hrc hc0
    go_wp2_with fail
    refine (pack_unfolded S (Nat.lt_of_lt_of_le HSb.out (by omega)) w).mono ?_
    rintro e w1 ⟨rfl,rfl⟩
    rename World => w
    go_wp2_with fail
    go_ret3
    exact ⟨by rw [HE.out]; rfl,rfl⟩
   ·
    have hub : u < 34359738368 := HU.out
    obtain ⟨S,hS⟩ : ∃ S,u + r * 34359738368 = S := ⟨_,rfl⟩
    have HSm := Lib.hid hS
    have HUb := Lib.hid hub
    have hSb : S < 4398046511104 := by omega
    have HSb := Lib.hid hSb
    have hor : bits .or .u64 (u : Int) ((r : Int) * 34359738368) = (S : Int) := by
     rw [u64_orv35 _ _ (by omega) (by omega) (by omega) (by omega) (by omega)]
     omega
    by_cases hm : 128 ≤ c
    ·
     have HN : Hid (rd 6 S (bs.drop 6) = num bs) := Lib.hid (by
      have h := HR.out
      rw [HDr.out,rd_more (by omega) (by rw [HCx.out]; exact hm),HCx.out,HRc.out] at h
      rw [← HSm.out]
      exact h)
     have HPw : Hid (S < pw 6) := Lib.hid (by
      rw [show pw 6 = 4398046511104 by decide]
      exact HSb.out)
     have a1 : (128 : Int) ≤ (c : Int) := by omega
     clear hub hS hSb
     go_wp2
     go_round
     case rel => exact ⟨6,S,rfl,rfl,by omega,by omega,HPw,HN⟩
     case measure => simp [intOf]; omega
    have hrc : r = c := by
     have := HRc.out
     omega
    have a2 : ¬ (128 : Int) ≤ (c : Int) := by omega
    by_cases hc0 : c = 0
    ·
     have HE : Hid (num bs = .inl 4) := Lib.hid (by
      rw [← HR.out,HDr.out,rd_zero (by rw [HCx.out]; exact hc0) (by omega)])
     have q0 : ((c : Int) == 0) = true := beq_iff_eq.2 (by omega)
     clear hub hS hSb hrc hc0
     go_wp2
     go_ret3
     exact ⟨by rw [HE.out]; rfl,rfl⟩
    have q0 : ((c : Int) == 0) = false := beq_eq_false_iff_ne.2 (by omega)
    have HE : Hid (num bs = .inr (S,6)) := Lib.hid (by
     rw [← HR.out,HDr.out,rd_last (by rw [HCx.out]; omega) (by rw [HCx.out]; omega) (by rw [HCx.out]; omega),HCx.out,← HSm.out,hrc])
    clear hub hS hSb hrc hc0
    go_wp2_with fail
    refine (pack_unfolded S (Nat.lt_of_lt_of_le HSb.out (by omega)) w).mono ?_
    rintro e w1 ⟨rfl,rfl⟩
    rename World => w
    go_wp2_with fail
    go_ret3
    exact ⟨by rw [HE.out]; rfl,rfl⟩
   ·
    have hub : u < 4398046511104 := HU.out
    obtain ⟨S,hS⟩ : ∃ S,u + r * 4398046511104 = S := ⟨_,rfl⟩
    have HSm := Lib.hid hS
    have HUb := Lib.hid hub
    have hSb : S < 562949953421312 := by omega
    have HSb := Lib.hid hSb
    have hor : bits .or .u64 (u : Int) ((r : Int) * 4398046511104) = (S : Int) := by
     rw [u64_orv42 _ _ (by omega) (by omega) (by omega) (by omega) (by omega)]
     omega
    by_cases hm : 128 ≤ c
    ·
     have HN : Hid (rd 7 S (bs.drop 7) = num bs) := Lib.hid (by
      have h := HR.out
      rw [HDr.out,rd_more (by omega) (by rw [HCx.out]; exact hm),HCx.out,HRc.out] at h
      rw [← HSm.out]
      exact h)
     have HPw : Hid (S < pw 7) := Lib.hid (by
      rw [show pw 7 = 562949953421312 by decide]
      exact HSb.out)
     have a1 : (128 : Int) ≤ (c : Int) := by omega
     clear hub hS hSb
     go_wp2
     go_round
     case rel => exact ⟨7,S,rfl,rfl,by omega,by omega,HPw,HN⟩
     case measure => simp [intOf]; omega
    have hrc : r = c := by
     have := HRc.out
     omega
    have a2 : ¬ (128 : Int) ≤ (c : Int) := by omega
    by_cases hc0 : c = 0
    ·
     have HE : Hid (num bs = .inl 4) := Lib.hid (by
      rw [← HR.out,HDr.out,rd_zero (by rw [HCx.out]; exact hc0) (by omega)])
     have q0 : ((c : Int) == 0) = true := beq_iff_eq.2 (by omega)
     clear hub hS hSb hrc hc0
     go_wp2
     go_ret3
     exact ⟨by rw [HE.out]; rfl,rfl⟩
    have q0 : ((c : Int) == 0) = false := beq_eq_false_iff_ne.2 (by omega)
    have HE : Hid (num bs = .inr (S,7)) := Lib.hid (by
     rw [← HR.out,HDr.out,rd_last (by rw [HCx.out]; omega) (by rw [HCx.out]; omega) (by rw [HCx.out]; omega),HCx.out,← HSm.out,hrc])
    clear hub hS hSb hrc hc0
    go_wp2_with fail
    refine (pack_unfolded S (Nat.lt_of_lt_of_le HSb.out (by omega)) w).mono ?_
    rintro e w1 ⟨rfl,rfl⟩
    rename World => w
    go_wp2_with fail
    go_ret3
    exact ⟨by rw [HE.out]; rfl,rfl⟩
   ·
    have hub : u < 562949953421312 := HU.out
    obtain ⟨S,hS⟩ : ∃ S,u + r * 562949953421312 = S := ⟨_,rfl⟩
    have HSm := Lib.hid hS
    have HUb := Lib.hid hub
    have hSb : S < 72057594037927936 := by omega
    have HSb := Lib.hid hSb
    have hor : bits .or .u64 (u : Int) ((r : Int) * 562949953421312) = (S : Int) := by
     rw [u64_orv49 _ _ (by omega) (by omega) (by omega) (by omega) (by omega)]
     omega
    by_cases hm : 128 ≤ c
    ·
     have HN : Hid (rd 8 S (bs.drop 8) = num bs) := Lib.hid (by
      have h := HR.out
      rw [HDr.out,rd_more (by omega) (by rw [HCx.out]; exact hm),HCx.out,HRc.out] at h
      rw [← HSm.out]
      exact h)
     have HPw : Hid (S < pw 8) := Lib.hid (by
      rw [show pw 8 = 72057594037927936 by decide]
      exact HSb.out)
     have a1 : (128 : Int) ≤ (c : Int) := by omega
     clear hub hS hSb
     go_wp2
     go_round
     case rel => exact ⟨8,S,rfl,rfl,by omega,by omega,HPw,HN⟩
     case measure => simp [intOf]; omega
    have hrc : r = c := by
     have := HRc.out
     omega
    have a2 : ¬ (128 : Int) ≤ (c : Int) := by omega
    by_cases hc0 : c = 0
    ·
     have HE : Hid (num bs = .inl 4) := Lib.hid (by
      rw [← HR.out,HDr.out,rd_zero (by rw [HCx.out]; exact hc0) (by omega)])
     have q0 : ((c : Int) == 0) = true := beq_iff_eq.2 (by omega)
     clear hub hS hSb hrc hc0
     go_wp2
     go_ret3
     exact ⟨by rw [HE.out]; rfl,rfl⟩
    have q0 : ((c : Int) == 0) = false := beq_eq_false_iff_ne.2 (by omega)
    have HE : Hid (num bs = .inr (S,8)) := Lib.hid (by
     rw [← HR.out,HDr.out,rd_last (by rw [HCx.out]; omega) (by rw [HCx.out]; omega) (by rw [HCx.out]; omega),HCx.out,← HSm.out,hrc])
    clear hub hS hSb hrc hc0
    go_wp2_with fail
    refine (pack_unfolded S (Nat.lt_of_lt_of_le HSb.out (by omega)) w).mono ?_
    rintro e w1 ⟨rfl,rfl⟩
    rename World => w
    go_wp2_with fail
    go_ret3
    exact ⟨by rw [HE.out]; rfl,rfl⟩
   ·
    have hub : u < 72057594037927936 := HU.out
    obtain ⟨S,hS⟩ : ∃ S,u + r * 72057594037927936 = S := ⟨_,rfl⟩
    have HSm := Lib.hid hS
    have HUb := Lib.hid hub
    have hSb : S < 9223372036854775808 := by omega
    have HSb := Lib.hid hSb
    have hor : bits .or .u64 (u : Int) ((r : Int) * 72057594037927936) = (S : Int) := by
     rw [u64_orv56 _ _ (by omega) (by omega) (by omega) (by omega) (by omega)]
     omega
    by_cases hm : 128 ≤ c
    ·
     have HN : Hid (rd 9 S (bs.drop 9) = num bs) := Lib.hid (by
      have h := HR.out
      rw [HDr.out,rd_more (by omega) (by rw [HCx.out]; exact hm),HCx.out,HRc.out] at h
      rw [← HSm.out]
      exact h)
     have HPw : Hid (S < pw 9) := Lib.hid (by
      rw [show pw 9 = 9223372036854775808 by decide]
      exact HSb.out)
     have a1 : (128 : Int) ≤ (c : Int) := by omega
     clear hub hS hSb
     go_wp2
     go_round
     case rel => exact ⟨9,S,rfl,rfl,by omega,by omega,HPw,HN⟩
     case measure => simp [intOf]; omega
    have hrc : r = c := by
     have := HRc.out
     omega
    have a2 : ¬ (128 : Int) ≤ (c : Int) := by omega
    by_cases hc0 : c = 0
    ·
     have HE : Hid (num bs = .inl 4) := Lib.hid (by
      rw [← HR.out,HDr.out,rd_zero (by rw [HCx.out]; exact hc0) (by omega)])
     have q0 : ((c : Int) == 0) = true := beq_iff_eq.2 (by omega)
     clear hub hS hSb hrc hc0
     go_wp2
     go_ret3
     exact ⟨by rw [HE.out]; rfl,rfl⟩
    have q0 : ((c : Int) == 0) = false := beq_eq_false_iff_ne.2 (by omega)
    have HE : Hid (num bs = .inr (S,9)) := Lib.hid (by
     rw [← HR.out,HDr.out,rd_last (by rw [HCx.out]; omega) (by rw [HCx.out]; omega) (by rw [HCx.out]; omega),HCx.out,← HSm.out,hrc])
    clear hub hS hSb hrc hc0
    go_wp2_with fail
    refine (pack_unfolded S (Nat.lt_of_lt_of_le HSb.out (by omega)) w).mono ?_
    rintro e w1 ⟨rfl,rfl⟩
    rename World => w
    go_wp2_with fail
    go_ret3
    exact ⟨by rw [HE.out]; rfl,rfl⟩
   ·
    have hub : u < 9223372036854775808 := HU.out
    obtain ⟨S,hS⟩ : ∃ S,u + r * 9223372036854775808 = S := ⟨_,rfl⟩
    have HSm := Lib.hid hS
    have HUb := Lib.hid hub
    by_cases ht : 1 < c
    ·
     have HE : Hid (num bs = .inl 4) := Lib.hid (by
      rw [← HR.out,HDr.out,rd_ten rfl (by rw [HCx.out]; exact ht)])
     have a1 : (1 : Int) < (c : Int) := by omega
     clear hub hS
     go_wp2
     go_ret3
     exact ⟨by rw [HE.out]; rfl,rfl⟩
    have hrc : r = c := by
     have := HRc.out
     omega
    have hSb : S < 18446744073709551616 := by omega
    have hor : bits .or .u64 (u : Int) ((r : Int) * 9223372036854775808) = (S : Int) := by
     rw [u64_orv63 _ _ (by omega) (by omega) (by omega) (by omega) (by omega)]
     omega
    have HSb := Lib.hid hSb
    have hr1 : r ≤ 1 := by omega
    have a0 : ¬ (1 : Int) < (c : Int) := by omega
    have a2 : ¬ (128 : Int) ≤ (c : Int) := by omega
    by_cases hc0 : c = 0
    ·
     have HE : Hid (num bs = .inl 4) := Lib.hid (by
      rw [← HR.out,HDr.out,rd_zero (by rw [HCx.out]; exact hc0) (by omega)])
     have q0 : ((c : Int) == 0) = true := beq_iff_eq.2 (by omega)
     clear hub hS hSb hrc hc0
     go_wp2
     go_ret3
     exact ⟨by rw [HE.out]; rfl,rfl⟩
    have q0 : ((c : Int) == 0) = false := beq_eq_false_iff_ne.2 (by omega)
    have HE : Hid (num bs = .inr (S,10)) := Lib.hid (by
     rw [← HR.out,HDr.out,rd_last (by rw [HCx.out]; omega) (by rw [HCx.out]; omega) (by rw [HCx.out]; omega),HCx.out,← HSm.out,hrc])
    clear hub hS hSb hrc hc0
    go_wp2_with fail
    refine (pack_unfolded S HSb.out w).mono ?_
    rintro e w1 ⟨rfl,rfl⟩
    rename World => w
    go_wp2_with fail
    go_ret3
    exact ⟨by rw [HE.out]; rfl,rfl⟩
  ·
   obtain rfl : k = n := by omega
   have HE : Hid (num bs = .inl 3) := Lib.hid (by
    rw [← HR.out,List.drop_eq_nil_of_le (by rw [← HLen.out]; exact Nat.le_refl _),rd_nil])
   go_wp2
   go_ret3
   exact ⟨by rw [HE.out]; rfl,rfl⟩
end Go.Proofs.YtlmjeackfepllaaGreatDoor
namespace Go.Proofs.YtlmjeackfepllaaGreatDoor
open Go.RowKit
open Go.Sort (grow)
open Mem Pk
structure Upd (w : World) (p : Nat) (w' : World) : Prop where
 size : w.heap.size ≤ w'.heap.size
 cell : ∀ b o,b < w.heap.size → b ≠ p → w'.cell? ⟨b,o,none⟩ = w.cell? ⟨b,o,none⟩
 frozen : ∀ b o,b < w.heap.size → w'.frozen? ⟨b,o,none⟩ = w.frozen? ⟨b,o,none⟩
 below : ∀ w0,Below w0.heap.size w0 w → w0.heap.size ≤ p → Below w0.heap.size w0 w'
 block : ∀ b,b < w.heap.size → b ≠ p → w'.heap[b]? = w.heap[b]?
theorem Upd.of {w w' : World} (p : Nat) (h : Below w.heap.size w w') : Upd w p w' :=
 ⟨h.size,fun b o hb _ => (bcell h).1 b o hb,fun b o hb => (bcell h).2 b o hb,fun _ k _ => bchain k h,fun b hb _ => h.block b hb⟩
theorem Upd.refl (w : World) (p : Nat) : Upd w p w := Upd.of p (Below.refl _ _)
theorem Upd.trans {w u v : World} {p : Nat} (h : Upd w p u) (k : Upd u p v) : Upd w p v :=
 ⟨Nat.le_trans h.size k.size,fun b o hb hp => by rw [k.cell b o (Nat.lt_of_lt_of_le hb h.size) hp,h.cell b o hb hp],fun b o hb => by rw [k.frozen b o (Nat.lt_of_lt_of_le hb h.size),h.frozen b o hb],fun w0 a c => k.below w0 (h.below w0 a c) c,fun b hb hp => by rw [k.block b (Nat.lt_of_lt_of_le hb h.size) hp,h.block b hb hp]⟩
theorem Upd.set {w : World} {p o : Nat} (x : Value) : Upd w p (w.setCell ⟨p,o,none⟩ x) := by
 refine ⟨by simp,fun b q _ _ => by simp [go_sem],fun b q _ => by simp [go_sem],fun w0 h hp => h.setCell (p := ⟨p,o,none⟩) hp x,fun b _ hp => Below.heap_setCell w ⟨p,o,none⟩ x b hp⟩
theorem Upd.fresh {w u : World} {p q o : Nat} (h : Upd w p u) (hq : w.heap.size ≤ q) (x : Value) : Upd w p (u.setCell ⟨q,o,none⟩ x) := by
 refine ⟨by simpa using h.size,fun b r hb hp => ?_,fun b r hb => ?_,fun w0 a c => (h.below w0 a c).setCell (p := ⟨q,o,none⟩) (Nat.le_trans a.size hq) x,fun b hb hp => ?_⟩
 ·
  rw [← h.cell b r hb hp]
  simp [go_sem]
 ·
  rw [← h.frozen b r hb]
  simp [go_sem]
 · rw [Below.heap_setCell u ⟨q,o,none⟩ x b (by show b ≠ q; omega),h.block b hb hp]
theorem By.Ls.upd {w w' : World} {p : Nat} {ao : Option Addr} {n cap : Nat} {bs : List UInt8} (h : By.Ls w ao n cap bs) (k : Upd w p w') (hp : ∀ b off,ao = some ⟨b,off,none⟩ → b ≠ p) : By.Ls w' ao n cap bs := by
 refine ⟨h.len,h.fits,h.reach,h.nil,?_⟩
 rcases h.seg with e | ⟨b,off,e,hc⟩
 · exact .inl e
 · exact .inr ⟨b,off,e,fun i hi => by rw [k.cell _ _ (cell_lt (hc i hi)) (hp b off e)]; exact hc i hi⟩
structure St where
 at' : Nat
 err : Int
structure Rd (w : World) (p : Nat) (ao : Option Addr) (n cap : Nat) (bs : List UInt8) (s : St) : Prop where
 c0 : w.cell? ⟨p,0,none⟩ = some (.slice ao n cap)
 c1 : w.cell? ⟨p,1,none⟩ = some (.int .i64 (s.at' : Int))
 c2 : w.cell? ⟨p,2,none⟩ = some (.int .i64 s.err)
 fz : ∀ o,w.frozen? ⟨p,o,none⟩ = false
 ls : By.Ls w ao n cap bs
 apart : ∀ b off,ao = some ⟨b,off,none⟩ → b ≠ p
 place : s.at' ≤ n
theorem Rd.below {w w' : World} {p : Nat} {ao : Option Addr} {n cap : Nat} {bs : List UInt8} {s : St} (h : Rd w p ao n cap bs s) (k : Below w.heap.size w w') : Rd w' p ao n cap bs s := by
 have hl := cell_lt h.c0
 exact ⟨by rw [(bcell k).1 _ _ hl]; exact h.c0,by rw [(bcell k).1 _ _ hl]; exact h.c1,by rw [(bcell k).1 _ _ hl]; exact h.c2,fun o => by rw [(bcell k).2 _ _ hl]; exact h.fz o,h.ls.below k,h.apart,h.place⟩
theorem Rd.at {w : World} {p : Nat} {ao : Option Addr} {n cap : Nat} {bs : List UInt8} {s : St} (h : Rd w p ao n cap bs s) (a : Nat) (ha : a ≤ n) : Rd (w.setCell ⟨p,1,none⟩ (.int .i64 (a : Int))) p ao n cap bs ⟨a,s.err⟩ :=
 ⟨by simp [go_sem,h.c0],by simp [go_sem,h.c1],by simp [go_sem,h.c2],fun o => by simp [go_sem,h.fz],h.ls.upd (Upd.set _) h.apart,h.apart,ha⟩
theorem Rd.wrong {w : World} {p : Nat} {ao : Option Addr} {n cap : Nat} {bs : List UInt8} {s : St} (h : Rd w p ao n cap bs s) (e : Int) : Rd (w.setCell ⟨p,2,none⟩ (.int .i64 e)) p ao n cap bs ⟨s.at',e⟩ :=
 ⟨by simp [go_sem,h.c0],by simp [go_sem,h.c1],by simp [go_sem,h.c2],fun o => by simp [go_sem,h.fz],h.ls.upd (Upd.set _) h.apart,h.apart,h.place⟩
def rNum (bs : List UInt8) (s : St) : Int × St := if s.err ≠ 0 then (0,s) else match num (bs.drop s.at') with
 | .inl e => (0,⟨s.at',e⟩)
 | .inr q => (uz q.1,⟨s.at' + q.2,0⟩)
theorem rNum_wrong {bs : List UInt8} {s : St} (h : s.err ≠ 0) : rNum bs s = (0,s) := by unfold rNum; rw [if_pos h]
theorem rNum_bad {bs : List UInt8} {s : St} {e : Int} (h : s.err = 0) (k : num (bs.drop s.at') = .inl e) : rNum bs s = (0,⟨s.at',e⟩) := by unfold rNum; rw [if_neg (by simp [h]),k]
theorem rNum_ok {bs : List UInt8} {s : St} {u z : Nat} (h : s.err = 0) (k : num (bs.drop s.at') = .inr (u,z)) : rNum bs s = (uz u,⟨s.at' + z,0⟩) := by unfold rNum; rw [if_neg (by simp [h]),k]
def AnsPk (f : FuncId) (args : Array Value) (u : World) (i : Nat) (os : Array Obj) (v : Value) : Prop :=
 Calls Tryz.prog f args (grow (redrawn u i) os) fun e w'' => e = .returned v ∧ ∃ p : Regrown,w'' = grow (redrawn u p.d) p.os
def numV : Int ⊕ (Nat × Nat) → Value
 | .inl e => .tuple #[.int .i64 0,.int .i64 0,.int .i64 e]
 | .inr p => .tuple #[.int .i64 (uz p.1),.int .i64 (p.2 : Int),.int .i64 0]
theorem number_agg {w : World} {ao : Option Addr} {n cap : Nat} {bs : List UInt8} (h : By.Ls w ao n cap bs) (i : Nat) (os : Array Obj) : AnsPk 174 #[.slice ao n cap] w i os (numV (num bs)) :=
 Calls.regrown_of ((pack_number bs ao n cap _ (h.below (below_regrown w i os))).mono fun e w' ⟨he,hw⟩ => ⟨by rw [he]; cases num bs <;> rfl,by rw [hw]; exact Below.refl _ _⟩)
theorem num_fit {l : List UInt8} {u z : Nat} (h : num l = .inr (u,z)) : z ≤ l.length := by
 obtain ⟨e,h2,_,_⟩ := num_is h
 have := congrArg List.length e
 rw [List.length_append,List.length_drop] at this
 unfold wd at h2
 omega
set_option maxHeartbeats 2000000 in
theorem rd_num (p : Nat) (ao : Option Addr) (n cap : Nat) (bs : List UInt8) (s : St) (w : World) (hR : Rd w p ao n cap bs s) :
  Calls Tryz.prog 143 #[.pointer (some ⟨p,0,none⟩)] w fun e w' => e = .returned (.int .i64 (rNum bs s).1) ∧ Rd w' p ao n cap bs (rNum bs s).2 ∧ Upd w p w' := by
 have HR := Lib.hid hR
 obtain ⟨a,er⟩ := s
 obtain ⟨c0,c1,c2,fz,hls,hap,hpl⟩ := hR
 dsimp only at c1 c2 hpl
 have hcap := hls.reach
 have hfit := hls.fits
 have hlen := hls.len
 by_cases he : er = 0
 ·
  subst he
  obtain ⟨ao2,cap2,hsl,hL2,_⟩ := hls.from a hpl
  have k0 := cell_regrown c0
  have k1 := cell_regrown c1
  have kn := number_agg hL2
  cases hn : num (bs.drop a) with
  | inl e =>
   rw [hn] at kn
   unfold numV at kn
   have HN := Lib.hid (rNum_bad (bs := bs) (s := ⟨a,0⟩) rfl hn)
   clear hn hls hap fz hL2 hlen
   go_enter Tryz.func143,Tryz.ntmps143
   go_wp2
   refine wp_region_quiet_below (by kernel_rfl) (by kernel_rfl) ?_
   repeat (first | go_big_quiet_step (first | (go_at_call 174; exact kn _ _)) | quiet_step (first | (go_at_call 174; exact kn _ _)))
   refine wpQuiet_nil ?_
   intro _ hw'
   obtain ⟨⟨dq,osq⟩,hw''⟩ := hw'
   subst hw''
   have bq := below_regrown w dq osq
   have HRq := Lib.hid (HR.out.below bq)
   have HUq := Lib.hid (Upd.of p bq)
   clear k0 k1 kn c0 c1 c2 bq hsl
   generalize grow (redrawn w dq) osq = x at *
   have d1 := HRq.out.c1
   have d2 := HRq.out.c2
   have df := HRq.out.fz
   dsimp only at d1 d2
   go_wp2
   go_ret
   refine ⟨by rw [HN.out]; rfl,?_,?_⟩
   ·
    rw [HN.out]
    exact (HRq.out.at a hpl).wrong e
   · exact (HUq.out.trans (Upd.set _)).trans (Upd.set _)
  | inr q =>
   obtain ⟨u,z⟩ := q
   rw [hn] at kn
   unfold numV at kn
   have hz : a + z ≤ n := by
    have := num_fit hn
    rw [List.length_drop] at this
    omega
   have HN := Lib.hid (rNum_ok (bs := bs) (s := ⟨a,0⟩) rfl hn)
   clear hn hls hap fz hL2 hlen
   go_enter Tryz.func143,Tryz.ntmps143
   go_wp2
   refine wp_region_quiet_below (by kernel_rfl) (by kernel_rfl) ?_
   repeat (first | go_big_quiet_step (first | (go_at_call 174; exact kn _ _)) | quiet_step (first | (go_at_call 174; exact kn _ _)))
   refine wpQuiet_nil ?_
   intro _ hw'
   obtain ⟨⟨dq,osq⟩,hw''⟩ := hw'
   subst hw''
   have bq := below_regrown w dq osq
   have HRq := Lib.hid (HR.out.below bq)
   have HUq := Lib.hid (Upd.of p bq)
   clear k0 k1 kn c0 c1 c2 bq hsl
   generalize grow (redrawn w dq) osq = x at *
   have d1 := HRq.out.c1
   have d2 := HRq.out.c2
   have df := HRq.out.fz
   dsimp only at d1 d2
   go_wp2
   go_ret
   refine ⟨by rw [HN.out]; rfl,?_,?_⟩
   ·
    rw [HN.out]
    have := (HRq.out.at (a + z) hz).wrong 0
    simpa using this
   · exact (HUq.out.trans (Upd.set _)).trans (Upd.set _)
 ·
  have HN := Lib.hid (rNum_wrong (bs := bs) (s := ⟨a,er⟩) he)
  have hne : (er != 0) = true := bne_iff_ne.2 he
  clear hls hap fz
  go_enter Tryz.func143,Tryz.ntmps143
  go_wp2
  go_ret
  exact ⟨by rw [HN.out]; rfl,by rw [HN.out]; exact HR.out,Upd.refl _ _⟩
end Go.Proofs.YtlmjeackfepllaaGreatDoor
namespace Go.Proofs.YtlmjeackfepllaaGreatDoor
open Go.RowKit
open Go.Sort (grow)
open Mem Pk
theorem rd_refuse (p : Nat) (ao : Option Addr) (n cap : Nat) (bs : List UInt8) (s : St) (a : Nat) (e : Int) (w : World) (hR : Rd w p ao n cap bs s) (ha : a ≤ n) :
  Calls Tryz.prog 195 #[.pointer (some ⟨p,0,none⟩),.int .i64 (a : Int),.int .i64 e] w fun r w' => r = .returned (.tuple #[]) ∧ Rd w' p ao n cap bs ⟨a,e⟩ ∧ Upd w p w' := by
 have HR := Lib.hid hR
 obtain ⟨c0,c1,c2,fz,_,_,_⟩ := hR
 go_enter Tryz.func195,Tryz.ntmps195
 go_wp2
 go_end0
 exact ⟨rfl,(HR.out.at a ha).wrong e,(Upd.set _).trans (Upd.set _)⟩
def rWithin (bs : List UInt8) (lo hi : Int) (s : St) : Int × St := if (rNum bs s).2.err ≠ 0 then (0,(rNum bs s).2) else if (rNum bs s).1 < lo ∨ hi < (rNum bs s).1 then (0,⟨s.at',2⟩) else rNum bs s
theorem rWithin_wrong {bs : List UInt8} {lo hi : Int} {s : St} (h : (rNum bs s).2.err ≠ 0) : rWithin bs lo hi s = (0,(rNum bs s).2) := by unfold rWithin; rw [if_pos h]
theorem rWithin_long {bs : List UInt8} {lo hi : Int} {s : St} (h : (rNum bs s).2.err = 0) (k : (rNum bs s).1 < lo ∨ hi < (rNum bs s).1) : rWithin bs lo hi s = (0,⟨s.at',2⟩) := by unfold rWithin; rw [if_neg (by simp [h]),if_pos k]
theorem rWithin_ok {bs : List UInt8} {lo hi : Int} {s : St} (h : (rNum bs s).2.err = 0) (k : ¬ ((rNum bs s).1 < lo ∨ hi < (rNum bs s).1)) : rWithin bs lo hi s = rNum bs s := by unfold rWithin; rw [if_neg (by simp [h]),if_neg k]
set_option maxHeartbeats 2000000 in
theorem rd_within (p : Nat) (ao : Option Addr) (n cap : Nat) (bs : List UInt8) (lo hi : Int) (s : St) (w : World) (hR : Rd w p ao n cap bs s) :
  Calls Tryz.prog 194 #[.pointer (some ⟨p,0,none⟩),.int .i64 lo,.int .i64 hi] w fun e w' => e = .returned (.int .i64 (rWithin bs lo hi s).1) ∧ Rd w' p ao n cap bs (rWithin bs lo hi s).2 ∧ Upd w p w' := by
 have HR := Lib.hid hR
 have hpl := hR.place
 have c1 := hR.c1
 clear hR
 go_enter Tryz.func194,Tryz.ntmps194
 go_wp2_with fail
 refine (rd_num p ao n cap bs s w HR.out).mono ?_
 rintro e w1 ⟨rfl,hR1,hU1⟩
 have HR1 := Lib.hid hR1
 have HU1 := Lib.hid hU1
 have d2 := hR1.c2
 clear hR1 hU1 c1
 obtain ⟨v,s1,hv⟩ : ∃ v s1,rNum bs s = (v,s1) := ⟨_,_,rfl⟩
 have HV := Lib.hid hv
 rw [hv] at HR1 d2
 rw [hv]
 dsimp only at d2 HR1 ⊢
 clear hv
 by_cases he : s1.err = 0
 ·
  rw [he] at d2
  by_cases hb : v < lo ∨ hi < v
  ·
   have HN : Hid (rWithin bs lo hi s = (0,⟨s.at',2⟩)) := Lib.hid (rWithin_long (by rw [HV.out]; exact he) (by rw [HV.out]; exact hb))
   rcases hb with hb | hb
   ·
    go_wp2_with fail
    refine (rd_refuse p ao n cap bs s1 s.at' 2 w1 HR1.out hpl).mono ?_
    rintro e w2 ⟨rfl,hR2,hU2⟩
    have HR2 := Lib.hid hR2
    have HU2 := Lib.hid (HU1.out.trans hU2)
    clear hR2 hU2
    go_wp2_with fail
    go_ret
    exact ⟨by rw [HN.out]; rfl,by rw [HN.out]; exact HR2.out,HU2.out⟩
   ·
    by_cases hlo : v < lo
    ·
     go_wp2_with fail
     refine (rd_refuse p ao n cap bs s1 s.at' 2 w1 HR1.out hpl).mono ?_
     rintro e w2 ⟨rfl,hR2,hU2⟩
     have HR2 := Lib.hid hR2
     have HU2 := Lib.hid (HU1.out.trans hU2)
     clear hR2 hU2
     go_wp2_with fail
     go_ret
     exact ⟨by rw [HN.out]; rfl,by rw [HN.out]; exact HR2.out,HU2.out⟩
    ·
     go_wp2_with fail
     refine (rd_refuse p ao n cap bs s1 s.at' 2 w1 HR1.out hpl).mono ?_
     rintro e w2 ⟨rfl,hR2,hU2⟩
     have HR2 := Lib.hid hR2
     have HU2 := Lib.hid (HU1.out.trans hU2)
     clear hR2 hU2
     go_wp2_with fail
     go_ret
     exact ⟨by rw [HN.out]; rfl,by rw [HN.out]; exact HR2.out,HU2.out⟩
  ·
   have HN : Hid (rWithin bs lo hi s = (v,s1)) := Lib.hid (by rw [rWithin_ok (by rw [HV.out]; exact he) (by rw [HV.out]; exact hb),HV.out])
   have hb1 : ¬ v < lo := fun h => hb (.inl h)
   have hb2 : ¬ hi < v := fun h => hb (.inr h)
   clear hb
   go_wp2_with fail
   go_ret
   exact ⟨by rw [HN.out]; rfl,by rw [HN.out]; exact HR1.out,HU1.out⟩
 ·
  have HN : Hid (rWithin bs lo hi s = (0,s1)) := Lib.hid (by rw [rWithin_wrong (by rw [HV.out]; exact he),HV.out])
  have hne : (s1.err != 0) = true := bne_iff_ne.2 he
  go_wp2_with fail
  go_ret
  exact ⟨by rw [HN.out]; rfl,by rw [HN.out]; exact HR1.out,HU1.out⟩
end Go.Proofs.YtlmjeackfepllaaGreatDoor
namespace Go.Proofs.YtlmjeackfepllaaGreatDoor
open Go.RowKit
open Go.Sort (grow)
open Mem Pk
def rCount (bs : List UInt8) (most : Int) (s : St) : Int × St := if (bs.length : Int) - ((rWithin bs 0 most s).2.at' : Int) < (rWithin bs 0 most s).1 then (0,⟨s.at',3⟩) else rWithin bs 0 most s
theorem rCount_short {bs : List UInt8} {most : Int} {s : St} (h : (bs.length : Int) - ((rWithin bs 0 most s).2.at' : Int) < (rWithin bs 0 most s).1) : rCount bs most s = (0,⟨s.at',3⟩) := by unfold rCount; rw [if_pos h]
theorem rCount_ok {bs : List UInt8} {most : Int} {s : St} (h : ¬ (bs.length : Int) - ((rWithin bs 0 most s).2.at' : Int) < (rWithin bs 0 most s).1) : rCount bs most s = rWithin bs 0 most s := by unfold rCount; rw [if_neg h]
theorem rNum_fit (bs : List UInt8) (s : St) : Fit (rNum bs s).1 := by
 have f0 : Fit 0 := ⟨by omega,by omega⟩
 unfold rNum
 split
 · exact f0
 ·
  cases h : num (bs.drop s.at') with
  | inl e => exact f0
  | inr q =>
   obtain ⟨u,z⟩ := q
   exact uz_fit (num_is h).2.2.1
theorem rWithin_fit (bs : List UInt8) (lo hi : Int) (s : St) : Fit (rWithin bs lo hi s).1 := by
 have f0 : Fit 0 := ⟨by omega,by omega⟩
 unfold rWithin
 split
 · exact f0
 ·
  split
  · exact f0
  · exact rNum_fit bs s
theorem rWithin_pos (bs : List UInt8) (hi : Int) (s : St) : 0 ≤ (rWithin bs 0 hi s).1 := by
 unfold rWithin
 split
 · exact Int.le_refl _
 ·
  split
  · exact Int.le_refl _
  · omega
set_option maxHeartbeats 2000000 in
theorem rd_count (p : Nat) (ao : Option Addr) (n cap : Nat) (bs : List UInt8) (most : Int) (s : St) (w : World) (hR : Rd w p ao n cap bs s) :
  Calls Tryz.prog 175 #[.pointer (some ⟨p,0,none⟩),.int .i64 most] w fun e w' => e = .returned (.int .i64 (rCount bs most s).1) ∧ Rd w' p ao n cap bs (rCount bs most s).2 ∧ Upd w p w' := by
 have HR := Lib.hid hR
 have hpl := hR.place
 have c1 := hR.c1
 have hcap := hR.ls.reach
 have hfit := hR.ls.fits
 have HLen := Lib.hid hR.ls.len
 clear hR
 go_enter Tryz.func175,Tryz.ntmps175
 go_wp2_with fail
 refine (rd_within p ao n cap bs 0 most s w HR.out).mono ?_
 rintro e w1 ⟨rfl,hR1,hU1⟩
 have hvf := rWithin_fit bs 0 most s
 obtain ⟨v,s1,hv⟩ : ∃ v s1,rWithin bs 0 most s = (v,s1) := ⟨_,_,rfl⟩
 have HV := Lib.hid hv
 rw [hv] at hR1 hvf
 rw [hv]
 dsimp only at hvf hR1 ⊢
 unfold Fit at hvf
 have hpl1 := hR1.place
 have k0 := cell_regrown hR1.c0
 have k1 := cell_regrown hR1.c1
 have HR1 := Lib.hid hR1
 have HU1 := Lib.hid hU1
 clear hR1 hU1 c1 hv
 obtain ⟨a1,e1⟩ := s1
 dsimp only at k1 hpl1
 by_cases hb : (n : Int) - (a1 : Int) < v
 ·
  have HN : Hid (rCount bs most s = (0,⟨s.at',3⟩)) := Lib.hid (rCount_short (by rw [HV.out,← HLen.out]; exact hb))
  go_wp2
  refine wp_region_quiet_below (by kernel_rfl) (by kernel_rfl) ?_
  repeat (first | go_big_quiet_step (fail) | quiet_step (fail))
  refine wpQuiet_nil ?_
  intro _ hw'
  obtain ⟨⟨dq,osq⟩,hw''⟩ := hw'
  subst hw''
  have bq := below_regrown w1 dq osq
  have HRq := Lib.hid (HR1.out.below bq)
  have HUq := Lib.hid (HU1.out.trans (Upd.of p bq))
  clear k0 k1 bq
  generalize grow (redrawn w1 dq) osq = x at *
  go_wp2_with fail
  refine (rd_refuse p ao n cap bs ⟨a1,e1⟩ s.at' 3 x HRq.out hpl).mono ?_
  rintro e w2 ⟨rfl,hR2,hU2⟩
  have HR2 := Lib.hid hR2
  have HU2 := Lib.hid (HUq.out.trans hU2)
  clear hR2 hU2
  go_wp2_with fail
  go_ret
  exact ⟨by rw [HN.out]; rfl,by rw [HN.out]; exact HR2.out,HU2.out⟩
 ·
  have HN : Hid (rCount bs most s = (v,⟨a1,e1⟩)) := Lib.hid (by rw [rCount_ok (by rw [HV.out,← HLen.out]; exact hb),HV.out])
  go_wp2
  refine wp_region_quiet_below (by kernel_rfl) (by kernel_rfl) ?_
  repeat (first | go_big_quiet_step (fail) | quiet_step (fail))
  refine wpQuiet_nil ?_
  intro _ hw'
  obtain ⟨⟨dq,osq⟩,hw''⟩ := hw'
  subst hw''
  have bq := below_regrown w1 dq osq
  have HRq := Lib.hid (HR1.out.below bq)
  have HUq := Lib.hid (HU1.out.trans (Upd.of p bq))
  clear k0 k1 bq
  generalize grow (redrawn w1 dq) osq = x at *
  go_wp2_with fail
  go_ret
  exact ⟨by rw [HN.out]; rfl,by rw [HN.out]; exact HRq.out,HUq.out⟩
end Go.Proofs.YtlmjeackfepllaaGreatDoor
namespace Go.Proofs.YtlmjeackfepllaaGreatDoor
open Go.RowKit
open Go.Sort (grow)
open Mem Pk
def str (bs : List UInt8) : ByteArray := ⟨bs.toArray⟩
theorem strOf (bs : List UInt8) : strOfNums (bs.map fun b => (b.toNat : Int)) = str bs := by
 unfold strOfNums str
 rw [List.map_map]
 have h : bs.map ((fun n : Int => UInt8.ofNat n.toNat) ∘ fun b => (b.toNat : Int)) = bs := by
  conv => rhs; rw [← List.map_id bs]
  apply List.map_congr_left
  intro b _
  simp
 rw [h]
theorem By.Ls.str {w : World} {ao : Option Addr} {n cap : Nat} {bs : List UInt8} (h : By.Ls w ao n cap bs) : (convert 59 9 (.slice ao n cap)).run Tryz.prog w = .ok (.string (str bs)) w := by
 have hn := h.len
 have empty : bs = [] → n = 0 := fun e => by rw [hn,e]; rfl
 rcases h.seg with e | ⟨b,off,rfl,hc⟩
 ·
  subst e
  obtain rfl := empty rfl
  cases ao with
  | none =>
   rw [run_convert_bytes_nil w 59 5 Tryz.underlying59 Tryz.underlying5 0 cap 9 Tryz.underlying9]
   rfl
  | some a =>
   obtain ⟨b,off,sp⟩ := a
   have hl : (loadCells ⟨b,off,sp⟩ 0).run Tryz.prog w = .ok #[] w := by simpa using run_loadCells_list (P := Tryz.prog) w ⟨b,off,sp⟩ [] (by simp)
   rw [run_convert_bytes_string w 59 9 5 _ 0 cap Tryz.underlying59 Tryz.underlying5 Tryz.underlying9,run_bytesToString w _ 0 cap [] (by simpa using hl)]
   rfl
 ·
  have hr := run_convert_bytes_arg (P := Tryz.prog) w 59 5 Tryz.underlying59 Tryz.underlying5 b off n cap (bs.map fun b => (b.toNat : Int)) (by simpa using hn.symm) (fun i hi => by
   rw [hc i (by omega)]
   unfold By.bv
   simp [List.getD,List.getElem?_eq_getElem (show i < bs.length by omega)]) 9 Tryz.underlying9
  rw [hr,strOf]
def rText (bs : List UInt8) (most : Int) (s : St) : ByteArray × St := (str ((bs.take ((rCount bs most s).2.at' + (rCount bs most s).1.toNat)).drop (rCount bs most s).2.at'),⟨(rCount bs most s).2.at' + (rCount bs most s).1.toNat,(rCount bs most s).2.err⟩)
theorem rCount_pos (bs : List UInt8) (hi : Int) (s : St) : 0 ≤ (rCount bs hi s).1 := by
 unfold rCount
 split
 · exact Int.le_refl _
 · exact rWithin_pos bs hi s
theorem rCount_in {bs : List UInt8} {most : Int} {s : St} (h : s.at' ≤ bs.length) : (rCount bs most s).2.at' + (rCount bs most s).1.toNat ≤ bs.length := by
 have hp := rWithin_pos bs most s
 unfold rCount
 split
 ·
  show s.at' + 0 ≤ bs.length
  omega
 · omega
set_option maxHeartbeats 2000000 in
theorem rd_text (p : Nat) (ao : Option Addr) (n cap : Nat) (bs : List UInt8) (most : Int) (s : St) (w : World) (hR : Rd w p ao n cap bs s) :
  Calls Tryz.prog 144 #[.pointer (some ⟨p,0,none⟩),.int .i64 most] w fun e w' => e = .returned (.string (rText bs most s).1) ∧ Rd w' p ao n cap bs (rText bs most s).2 ∧ Upd w p w' := by
 have HR := Lib.hid hR
 have hcap := hR.ls.reach
 have hfit := hR.ls.fits
 have HLen := Lib.hid hR.ls.len
 have hin := rCount_in (bs := bs) (most := most) (s := s) (by rw [← hR.ls.len]; exact hR.place)
 have hpos := rCount_pos bs most s
 clear hR
 go_enter Tryz.func144,Tryz.ntmps144
 go_wp2_with fail
 refine (rd_count p ao n cap bs most s w HR.out).mono ?_
 rintro e w1 ⟨rfl,hR1,hU1⟩
 obtain ⟨v,s1,hv⟩ : ∃ v s1,rCount bs most s = (v,s1) := ⟨_,_,rfl⟩
 have HT : Hid (rText bs most s = (str ((bs.take (s1.at' + v.toNat)).drop s1.at'),⟨s1.at' + v.toNat,s1.err⟩)) := Lib.hid (by unfold rText; rw [hv])
 rw [hv] at hR1 hin hpos
 rw [hv]
 dsimp only at hR1 hin hpos ⊢
 obtain ⟨q,rfl⟩ : ∃ q : Nat,v = q := ⟨v.toNat,by omega⟩
 rw [Int.toNat_natCast] at HT hin
 obtain ⟨a1,e1⟩ := s1
 dsimp only at hin HT
 rw [← HLen.out] at hin
 obtain ⟨ao2,cap2,hsl,hL2⟩ := hR1.ls.mid a1 (a1 + q) (by omega) hin
 rw [show ((a1 + q : Nat) : Int) = (a1 : Int) + (q : Int) from by omega,show a1 + q - a1 = q by omega] at hsl
 rw [show a1 + q - a1 = q by omega] at hL2
 have hstr : ∀ (d : Nat) (os : Array Obj),(convert 59 9 (.slice ao2 q cap2)).run Tryz.prog (grow (redrawn w1 d) os) = .ok (.string (str ((bs.take (a1 + q)).drop a1))) (grow (redrawn w1 d) os) := fun d os => (hL2.below (below_regrown w1 d os)).str
 have k0 := cell_regrown hR1.c0
 have k1 := cell_regrown hR1.c1
 dsimp only at k1
 have HR1 := Lib.hid hR1
 have HU1 := Lib.hid hU1
 obtain ⟨S,hS⟩ : ∃ S,str ((bs.take (a1 + q)).drop a1) = S := ⟨_,rfl⟩
 rw [hS] at hstr HT
 clear hR1 hU1 hv hL2 hpos hS
 go_wp2
 refine wp_region_quiet_below (by kernel_rfl) (by kernel_rfl) ?_
 repeat (first | go_big_quiet_step (fail) | quiet_step (fail))
 refine wpQuiet_nil ?_
 intro _ hw'
 obtain ⟨⟨dq,osq⟩,hw''⟩ := hw'
 subst hw''
 have bq := below_regrown w1 dq osq
 have HRq := Lib.hid (HR1.out.below bq)
 have HUq := Lib.hid (HU1.out.trans (Upd.of p bq))
 clear k0 k1 bq hstr hsl
 generalize grow (redrawn w1 dq) osq = x at *
 have d1 := HRq.out.c1
 have df := HRq.out.fz
 dsimp only at d1
 go_wp2
 go_ret
 refine ⟨by rw [HT.out]; rfl,?_,HUq.out.trans (Upd.set _)⟩
 rw [HT.out]
 have := HRq.out.at (a1 + q) hin
 simpa using this
def rEnd (bs : List UInt8) (s : St) : Int × St := if s.err = 0 ∧ s.at' < bs.length then (5,⟨s.at',5⟩) else (s.err,s)
theorem rEnd_tail {bs : List UInt8} {s : St} (h : s.err = 0 ∧ s.at' < bs.length) : rEnd bs s = (5,⟨s.at',5⟩) := by unfold rEnd; rw [if_pos h]
theorem rEnd_else {bs : List UInt8} {s : St} (h : ¬ (s.err = 0 ∧ s.at' < bs.length)) : rEnd bs s = (s.err,s) := by unfold rEnd; rw [if_neg h]
set_option maxHeartbeats 2000000 in
theorem rd_end (p : Nat) (ao : Option Addr) (n cap : Nat) (bs : List UInt8) (s : St) (w : World) (hR : Rd w p ao n cap bs s) :
  Calls Tryz.prog 145 #[.pointer (some ⟨p,0,none⟩)] w fun e w' => e = .returned (.int .i64 (rEnd bs s).1) ∧ Rd w' p ao n cap bs (rEnd bs s).2 ∧ Upd w p w' := by
 have HR := Lib.hid hR
 have hcap := hR.ls.reach
 have hfit := hR.ls.fits
 have HLen := Lib.hid hR.ls.len
 have hpl := hR.place
 have k0 := cell_regrown hR.c0
 have k1 := cell_regrown hR.c1
 have k2 := cell_regrown hR.c2
 obtain ⟨a,er⟩ := s
 dsimp only at k1 k2 hpl
 clear hR
 by_cases he : er = 0
 ·
  subst he
  by_cases hlt : a < n
  ·
   have HN : Hid (rEnd bs ⟨a,0⟩ = (5,⟨a,5⟩)) := Lib.hid (rEnd_tail ⟨rfl,by rw [← HLen.out]; exact hlt⟩)
   go_enter Tryz.func145,Tryz.ntmps145
   go_wp2
   refine wp_region_quiet_below (by kernel_rfl) (by kernel_rfl) ?_
   repeat (first | go_big_quiet_step (fail) | quiet_step (fail))
   refine wpQuiet_nil ?_
   intro _ hw'
   obtain ⟨⟨dq,osq⟩,hw''⟩ := hw'
   subst hw''
   have bq := below_regrown w dq osq
   have HRq := Lib.hid (HR.out.below bq)
   have HUq := Lib.hid (Upd.of p bq)
   clear k0 k1 k2 bq
   generalize grow (redrawn w dq) osq = x at *
   have d2 := HRq.out.c2
   have df := HRq.out.fz
   dsimp only at d2
   go_wp2
   go_ret
   refine ⟨by rw [HN.out]; rfl,?_,HUq.out.trans (Upd.set _)⟩
   rw [HN.out]
   exact HRq.out.wrong 5
  ·
   have HN : Hid (rEnd bs ⟨a,0⟩ = (0,⟨a,0⟩)) := Lib.hid (rEnd_else (fun h => hlt (by rw [HLen.out]; exact h.2)))
   go_enter Tryz.func145,Tryz.ntmps145
   go_wp2
   refine wp_region_quiet_below (by kernel_rfl) (by kernel_rfl) ?_
   repeat (first | go_big_quiet_step (fail) | quiet_step (fail))
   refine wpQuiet_nil ?_
   intro _ hw'
   obtain ⟨⟨dq,osq⟩,hw''⟩ := hw'
   subst hw''
   have bq := below_regrown w dq osq
   have HRq := Lib.hid (HR.out.below bq)
   have HUq := Lib.hid (Upd.of p bq)
   clear k0 k1 k2 bq
   generalize grow (redrawn w dq) osq = x at *
   have d2 := HRq.out.c2
   dsimp only at d2
   go_wp2
   go_ret
   exact ⟨by rw [HN.out]; rfl,by rw [HN.out]; exact HRq.out,HUq.out⟩
 ·
  have HN : Hid (rEnd bs ⟨a,er⟩ = (er,⟨a,er⟩)) := Lib.hid (rEnd_else (fun h => he h.1))
  have q0 : (er == 0) = false := beq_eq_false_iff_ne.2 he
  go_enter Tryz.func145,Tryz.ntmps145
  go_wp2
  refine wp_region_quiet_below (by kernel_rfl) (by kernel_rfl) ?_
  repeat (first | go_big_quiet_step (fail) | quiet_step (fail))
  refine wpQuiet_nil ?_
  intro _ hw'
  obtain ⟨⟨dq,osq⟩,hw''⟩ := hw'
  subst hw''
  have bq := below_regrown w dq osq
  have HRq := Lib.hid (HR.out.below bq)
  have HUq := Lib.hid (Upd.of p bq)
  clear k0 k1 k2 bq
  generalize grow (redrawn w dq) osq = x at *
  have d2 := HRq.out.c2
  dsimp only at d2
  go_wp2
  go_ret
  exact ⟨by rw [HN.out]; rfl,by rw [HN.out]; exact HRq.out,HUq.out⟩
set_option maxHeartbeats 2000000 in
theorem pack_read (bs : List UInt8) (ao : Option Addr) (m cap : Nat) (w : World) (hL : By.Ls w ao m cap bs) (hm : m ≤ 1000000000000) :
  Calls Tryz.prog 142 #[.slice ao m cap] w fun e w' => (∃ p bo,e = .returned (.pointer (some ⟨p,0,none⟩)) ∧ w.heap.size ≤ p ∧ Rd w' p bo m m bs ⟨0,0⟩) ∧ Below w.heap.size w w' := by
 have hmk := By.make m (by omega)
 have hb0 := By.block_made w m
 have hB1 := (Below.refl w.heap.size w).alloc (Nat.le_refl _) (.cells (By.zeros m) 5)
 obtain ⟨W1,hcp,hblk,hbel,hsz⟩ := By.copy (w.alloc (.cells (By.zeros m) 5)) w.heap.size 0 [] [] m ao m cap bs (by simpa using hb0) rfl hL.len (hL.below hB1).seg (some ⟨w.heap.size,0,none⟩) (fun _ => rfl)
 rw [List.length_nil,Nat.add_zero] at hcp
 rw [List.nil_append,List.append_nil] at hblk
 have HB1 := Lib.hid (hbel _ _ hB1 (Nat.le_refl _))
 have HBk := Lib.hid hblk
 have HLen := Lib.hid hL.len
 have hcap := hL.reach
 have hs1 : W1.heap.size = w.heap.size + 1 := by rw [hsz]; simp
 clear hL hb0 hblk hbel hB1 hsz
 go_enter Tryz.func142,Tryz.ntmps142
 go_wp2
 go_ret
 have bx : Below W1.heap.size W1 (W1.alloc (.cells #[.slice (some ⟨w.heap.size,0,none⟩) m m,.int .i64 0,.int .i64 0] 197)) := (Below.refl _ _).alloc (Nat.le_refl _) _
 have hls := (HBk.out.ls (by rw [← HLen.out]; omega)).below bx
 rw [← HLen.out] at hls
 refine ⟨⟨w.heap.size + 1,some ⟨w.heap.size,0,none⟩,rfl,by omega,?_⟩,bchain HB1.out bx⟩
 rw [← hs1]
 exact ⟨by simp [go_sem],by simp [go_sem],by simp [go_sem],fun o => by simp [go_sem],hls,fun b off e => by cases e; omega,by show 0 ≤ m; omega⟩
end Go.Proofs.YtlmjeackfepllaaGreatDoor
namespace Go.Proofs.YtlmjeackfepllaaGreatDoor.Wl
open Pk
def nm (n : Int) : List UInt8 := vb (zz n)
def tx (b : ByteArray) : List UInt8 := nm (b.size : Int) ++ txt b
theorem nm_pos (n : Int) : 1 ≤ (nm n).length := vbF_pos
theorem nm_len (n : Int) : (nm n).length ≤ 10 := vbF_len 10 _
def Rem (bs : List UInt8) (s : St) (r : List UInt8) : Prop := s.err = 0 ∧ bs.drop s.at' = r
def s0 : St := ⟨0,0⟩
theorem fwd_num {bs : List UInt8} {s : St} {n : Int} {r : List UInt8} (h : Rem bs s (nm n ++ r)) (hn : Fit n) : (rNum bs s).1 = n ∧ Rem bs (rNum bs s).2 r := by
 have hk : num (bs.drop s.at') = .inr (zz n,wd (zz n)) := by rw [h.2]; exact num_vb (zz_lt hn) r
 rw [rNum_ok h.1 hk]
 refine ⟨uz_zz n,rfl,?_⟩
 show bs.drop (s.at' + wd (zz n)) = r
 rw [← List.drop_drop,h.2]
 exact List.drop_left' rfl
theorem fwd_count {bs : List UInt8} {s : St} {k : Nat} {most : Int} {r : List UInt8} (h : Rem bs s (nm (k : Int) ++ r)) (hk : (k : Int) ≤ most) (hm : most ≤ 100000) (hr : k ≤ r.length) : (rCount bs most s).1 = k ∧ Rem bs (rCount bs most s).2 r := by
 have hf : Fit (k : Int) := ⟨by omega,by omega⟩
 obtain ⟨h1,h2⟩ := fwd_num h hf
 have hw : rWithin bs 0 most s = rNum bs s := rWithin_ok h2.1 (by rw [h1]; omega)
 have hl := congrArg List.length h.2
 rw [List.length_append,List.length_drop] at hl
 have hp := nm_pos (k : Int)
 have hn : num (bs.drop s.at') = .inr (zz (k : Int),wd (zz (k : Int))) := by rw [h.2]; exact num_vb (zz_lt hf) r
 have ha : (rNum bs s).2.at' = s.at' + (nm (k : Int)).length := by rw [rNum_ok h.1 hn]; rfl
 have hc : rCount bs most s = rNum bs s := by
  rw [rCount_ok (by rw [hw,h1,ha]; omega),hw]
 rw [hc]
 exact ⟨h1,h2⟩
theorem str_txt (t : ByteArray) : str (txt t) = t := rfl
theorem fwd_text {bs : List UInt8} {s : St} {t : ByteArray} {most : Int} {r : List UInt8} (h : Rem bs s (tx t ++ r)) (ht : (t.size : Int) ≤ most) (hm : most ≤ 100000) : (rText bs most s).1 = t ∧ Rem bs (rText bs most s).2 r := by
 unfold tx at h
 rw [List.append_assoc] at h
 obtain ⟨h1,h2⟩ := fwd_count h ht hm (by rw [List.length_append,txt_len]; omega)
 have ha : (bs.take ((rCount bs most s).2.at' + t.size)).drop (rCount bs most s).2.at' = txt t := by
  rw [List.drop_take,h2.2,show (rCount bs most s).2.at' + t.size - (rCount bs most s).2.at' = t.size by omega]
  exact List.take_left' (txt_len t)
 unfold rText
 rw [h1,Int.toNat_natCast,ha]
 refine ⟨str_txt t,h2.1,?_⟩
 show bs.drop ((rCount bs most s).2.at' + t.size) = r
 rw [← List.drop_drop,h2.2]
 exact List.drop_left' (txt_len t)
theorem rem_end {bs : List UInt8} {s : St} (h : Rem bs s []) : (rEnd bs s).1 = 0 := by
 rw [rEnd_else fun k => ?_]
 · exact h.1
 ·
  have := congrArg List.length h.2
  rw [List.length_drop,List.length_nil] at this
  omega
theorem rem_start (bs : List UInt8) : Rem bs s0 bs := ⟨rfl,rfl⟩
end Go.Proofs.YtlmjeackfepllaaGreatDoor.Wl
namespace Go.Proofs.YtlmjeackfepllaaGreatDoor
open Go.RowKit
theorem ret_u32 {a b : Int} (h : a = b) : Ending.returned (.int .u32 a) = .returned (.int .u32 b) := by rw [h]
def Seg (w : World) (ao : Option Addr) (bs : List UInt8) : Prop :=
 bs = [] ∨ ∃ b off,ao = some ⟨b,off,none⟩ ∧ ∀ k (hk : k < bs.length),w.cell? ⟨b,off + k,none⟩ = some (.int .u8 (bs[k].toNat : Int))
theorem lt_of_cell {w : World} {b o : Nat} {v : Value} (h : w.cell? ⟨b,o,none⟩ = some v) : b < w.heap.size := by
 by_cases hb : b < w.heap.size
 · exact hb
 · simp [World.cell?,Array.getElem?_eq_none (Nat.not_lt.1 hb)] at h
theorem Seg.below {w w' : World} {ao : Option Addr} {bs : List UInt8} (h : Seg w ao bs) (hb : Below w.heap.size w w') : Seg w' ao bs := by
 rcases h with h | ⟨b,off,e,hc⟩
 · exact .inl h
 · exact .inr ⟨b,off,e,fun k hk => (hb.cell (p := ⟨b,off + k,none⟩) (lt_of_cell (hc k hk))).trans (hc k hk)⟩
theorem Seg.take {w : World} {b off : Nat} {bs : List UInt8} (h : Seg w (some ⟨b,off,none⟩) bs) (i : Nat) : Seg w (some ⟨b,off,none⟩) (bs.take i) := by
 rcases h with rfl | ⟨b',off',e,hc⟩
 · exact .inl (by simp)
 ·
  cases e
  exact .inr ⟨b,off,rfl,fun k hk => by
   simp only [List.length_take] at hk
   rw [List.getElem_take]
   exact hc k (by omega)⟩
theorem Seg.drop {w : World} {b off : Nat} {bs : List UInt8} (h : Seg w (some ⟨b,off,none⟩) bs) (i : Nat) : Seg w (some ⟨b,off + i,none⟩) (bs.drop i) := by
 rcases h with rfl | ⟨b',off',e,hc⟩
 · exact .inl (by simp)
 ·
  cases e
  exact .inr ⟨b,off + i,rfl,fun k hk => by
   simp only [List.length_drop] at hk
   rw [List.getElem_drop,Nat.add_assoc]
   exact hc (i + k) (by omega)⟩
theorem Seg.takes {w : World} {ao : Option Addr} {bs : List UInt8} (h : Seg w ao bs) (i : Nat) : Seg w ao (bs.take i) := by
 rcases h with rfl | ⟨b,off,rfl,hc⟩
 · exact .inl (by simp)
 · exact Seg.take (.inr ⟨b,off,rfl,hc⟩) i
theorem Seg.cut {w : World} {b off cap : Nat} {bs : List UInt8} (h : Seg w (some ⟨b,off,none⟩) bs) (hle : bs.length ≤ cap) (i : Nat) :
  Seg w (if cap = i then some ⟨b,off,none⟩ else some ⟨b,off + i,none⟩) (bs.drop i) := by
 split
 · exact .inl (List.drop_eq_nil_iff.2 (by omega))
 · exact h.drop i
theorem Seg.drew {w : World} {ao : Option Addr} {bs : List UInt8} (h : Seg w ao bs) : Seg w.drew ao bs := h
def bv (b : UInt8) : Value := .int .u8 (b.toNat : Int)
def Row (w : World) (g : Nat) (cs : List Value) : Prop := w.heap[g]? = some (.cells cs.toArray 5 (0,0))
theorem Row.lt {w : World} {g : Nat} {cs : List Value} (h : Row w g cs) : g < w.heap.size := by
 by_cases hb : g < w.heap.size
 · exact hb
 · simp [Row,Array.getElem?_eq_none (Nat.not_lt.1 hb)] at h
theorem Row.cell {w : World} {g : Nat} {cs : List Value} (h : Row w g cs) (k : Nat) (hk : k < cs.length) : w.cell? ⟨g,k,none⟩ = some cs[k] := by
 rw [cell_of_row w g k _ _ _ h]
 simp [hk]
theorem Row.frozen {w : World} {g : Nat} {cs : List Value} (h : Row w g cs) (k : Nat) : w.frozen? ⟨g,k,none⟩ = false :=
 frozen_of_row w g k _ _ h
theorem Row.set {w : World} {g : Nat} {cs : List Value} (h : Row w g cs) (k : Nat) (v : Value) : Row (w.setCell ⟨g,k,none⟩ v) g (cs.set k v) := by
 have := heap_setCell_same w g k _ _ v h
 simpa [Row] using this
theorem Row.below {w w' : World} {g B : Nat} {cs : List Value} (h : Row w g cs) (hb : Below B w w') (hg : g < B) : Row w' g cs :=
 (hb.block g hg).trans h
theorem Row.keep {w w' : World} {g : Nat} {cs : List Value} (h : Row w g cs) (hb : Below w.heap.size w w') : Row w' g cs :=
 h.below hb h.lt
theorem Row.drew {w : World} {g : Nat} {cs : List Value} (h : Row w g cs) : Row w.drew g cs := h
theorem Row.alloc {w : World} {g : Nat} {cs : List Value} (h : Row w g cs) (o : Obj) : Row (w.alloc o) g cs :=
 h.keep ((Below.refl _ _).alloc (Nat.le_refl _) o)
theorem Row.seg {w : World} {g : Nat} {bs : List UInt8} {rest : List Value} (h : Row w g (bs.map bv ++ rest)) : Seg w (some ⟨g,0,none⟩) bs :=
 .inr ⟨g,0,rfl,fun k hk => by
  rw [Nat.zero_add,h.cell k (by simp; omega),List.getElem_append_left (by simpa using hk)]
  simp [bv]⟩
theorem Row.seg' {w : World} {g : Nat} {bs : List UInt8} (h : Row w g (bs.map bv)) : Seg w (some ⟨g,0,none⟩) bs :=
 Row.seg (rest := []) (by simpa using h)
theorem set_behind {α : Type} (L t : List α) (n k : Nat) (v : α) (hn : L.length = n) : (L ++ t).set (n + k) v = L ++ t.set k v := by
 subst hn
 rw [List.set_append_right _ _ (by omega),Nat.add_sub_cancel_left]
theorem take_set_succ {α : Type} (t : List α) (k : Nat) (v : α) (hk : k < t.length) : (t.set k v).take (k + 1) = t.take k ++ [v] := by
 rw [List.take_succ_eq_append_getElem (by simpa using hk),List.take_set_of_le (Nat.le_refl k)]
 simp
theorem one_bv (bs : List UInt8) : ∀ v ∈ bs.map bv,v.oneCell' = true := by
 intro v hv
 obtain ⟨b,_,rfl⟩ := List.mem_map.1 hv
 rfl
theorem splice_zero (n m : Nat) (z : Value) (cs : List Value) (h : cs.length = n) : splice (List.replicate (n + m) z) 0 cs = cs ++ List.replicate m z := by
 simp [splice,h]
theorem Seg.src {w : World} {ao : Option Addr} {bs : List UInt8} (h : Seg w ao bs) (h0 : 0 < (bs.map bv).length) : ∃ ad,ao = some ad ∧ ∀ j v,(bs.map bv)[j]? = some v → w.cell? (ad.add j) = some v := by
 rcases h with rfl | ⟨b,off,rfl,hc⟩
 · simp at h0
 ·
  refine ⟨_,rfl,fun j v hv => ?_⟩
  obtain ⟨hj,rfl⟩ := List.getElem?_eq_some_iff.1 hv
  simp only [List.length_map] at hj
  have h1 := hc j hj
  by_cases h0 : j = 0
  ·
   subst h0
   simpa [Addr.add,bv] using h1
  · simpa [Addr.add,bv,h0] using h1
theorem info8 : (Tryz.prog.info? 5).map (fun i => (i.zero,i.size,i.bytes)) = some (some (.int .u8 0),1,1) := by kernel_rfl
theorem size8 : (Tryz.prog.info? 5).map (·.size) = some 1 := by kernel_rfl
def zeros (n : Nat) : Array Value := (List.replicate n (Value.int .u8 0)).toArray
theorem make_bytes (n : Nat) (hn : n ≤ 281474976710656) (u : World) : (Instr.makeSlice 59 (.int .i64 (n : Int)) (.int .i64 (n : Int))).run Tryz.prog u =
  .ok (.slice (some ⟨u.heap.size,0,none⟩) n n) (u.alloc (.cells (zeros n) 5)) := by
 obtain ⟨i0,hi,hz0,hz1,hz2⟩ := info_parts info8
 have h := run_make (P := Tryz.prog) u 59 5 i0 (.int .u8 0) Tryz.underlying59 hi hz0 .i64 .i64 (n : Int) (n : Int) (by omega) (Int.le_refl _) (by rw [hz2]; omega) (by omega)
 have e : (madeCells #[Value.int .u8 0] n) = zeros n := by
  apply Array.toList_inj.1
  rw [toList_madeCells_one]
  rfl
 simpa [hz1,Value.cells,e] using h
theorem row_made (u : World) (n : Nat) : Row (u.alloc (.cells (zeros n) 5)) u.heap.size (List.replicate n (Value.int .u8 0)) := heap_alloc_new u _
theorem row_new (u : World) (cs : List Value) : Row (u.alloc (.cells cs.toArray 5)) u.heap.size cs := heap_alloc_new u _
theorem copy_bytes (u : World) (g : Nat) (L : List Value) (dLen dCap : Nat) (ao : Option Addr) (n cap : Nat) (bs : List UInt8) (hrow : Row u g L) (hd : dLen ≤ L.length) (hn : n = bs.length) (hs : Seg u ao bs) :
  ∃ u',(Builtin.copy_ #[59,59] 3 #[.slice (some ⟨g,0,none⟩) dLen dCap,.slice ao n cap]).run Tryz.prog u = .ok (goInt (bs.take dLen).length) u' ∧
   Row u' g (splice L 0 ((bs.take dLen).map bv)) ∧ (∀ B w0,Below B w0 u → B ≤ g → Below B w0 u') ∧ u'.heap.size = u.heap.size := by
 by_cases h0 : (bs.take dLen) = []
 ·
  refine ⟨u,?_,?_,fun _ _ h _ => h,rfl⟩
  ·
   rw [h0]
   exact run_copy_none (P := Tryz.prog) u _ _ _ 5 _ _ _ _ _ _ Tryz.underlying59 size8 (by
    have := congrArg List.length h0
    rw [List.length_take,List.length_nil] at this
    show min n dLen = 0
    omega)
  ·
   rw [h0]
   simpa [splice] using hrow
 ·
  have hpos : 0 < bs.length := by
   rcases bs with _ | ⟨b,t⟩
   · simp at h0
   · simp
  rcases hs with rfl | ⟨b,off,rfl,hc⟩
  · simp at hpos
  ·
   refine ⟨u.setRow g (splice L 0 ((bs.take dLen).map bv)).toArray,?_,?_,fun B w0 h hB => below_setRow h hB _,by simp [World.setRow]⟩
   ·
    have := run_copy_row (P := Tryz.prog) u 59 59 3 5 g 0 dLen dCap ⟨b,off,none⟩ n cap L.toArray 5 ((bs.take dLen).map bv) Tryz.underlying59 size8 hrow (by
     rw [List.length_map,List.length_take,hn]
     show _ = min _ _
     omega) (fun j v hv => by
      obtain ⟨hj,rfl⟩ := List.getElem?_eq_some_iff.1 hv
      simp only [List.length_map,List.length_take] at hj
      have h1 := hc j (by omega)
      by_cases hj0 : j = 0
      ·
       subst hj0
       simpa [Addr.add,bv] using h1
      · simpa [Addr.add,bv,hj0] using h1) (by simp; omega) (one_bv _)
    rw [this]
    simp [splice]
   ·
    have := setRow_heap u g L.toArray (splice L 0 ((bs.take dLen).map bv)).toArray 5 _ hrow
    simpa [Row,splice] using this
theorem seg_lit (u : World) (bs : List UInt8) (fr : Nat × Nat) : Seg (u.alloc (.cells (bs.map bv).toArray 5 fr)) (some ⟨u.heap.size,0,none⟩) bs :=
 .inr ⟨u.heap.size,0,rfl,fun k hk => by
  rw [Nat.zero_add,cell_of_row _ _ _ _ _ _ (heap_alloc_new u _)]
  simp [hk,bv]⟩
end Go.Proofs.YtlmjeackfepllaaGreatDoor
