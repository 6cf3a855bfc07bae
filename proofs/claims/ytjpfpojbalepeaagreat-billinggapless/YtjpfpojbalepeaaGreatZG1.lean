import Derived.Test.YtjpfpojbalepeaaGreatRows
import Derived.WalkKit
import Derived.WalkLawsBesides
import Derived.Laws.BitsAllLaws
import Derived.Deep.QuietTactic
import Derived.BigQuiet
import Derived.WalkSmall
import Derived.WalkSpells
import Derived.Lib.Hide
import Derived.Deep.RegionHeld
import Derived.Lib.OthersKept
import Derived.Laws.Strings3
import Derived.Laws.Runes
import Derived.Laws.Concat
import Derived.Deep.RegionHeld3
import Derived.Lib.MapLaws
import Derived.Maps.AppendAt
import Derived.Laws.AppendOwnNone
import Derived.Laws.Rows
import Derived.RegionTactic
namespace Go.Proofs.YtjpfpojbalepeaaGreat
open Go.RowKit
theorem ret_bool {a b : Bool} (h : a = b) : Ending.returned (.bool a) = .returned (.bool b) := by rw [h]
theorem ret_int {a b : Int} (h : a = b) : Ending.returned (.int .i64 a) = .returned (.int .i64 b) := by rw [h]
def both (v e : Int) : Ending := .returned (.tuple #[.int .i64 v,.int .i64 e])
theorem both_eq {a b c d : Int} (h : a = b) (k : c = d) : both a c = both b d := by rw [h,k]
def Fit (x : Int) : Prop := -9223372036854775808 ≤ x ∧ x ≤ 9223372036854775807
theorem fit_in {a : Int} (h : (Lit.int .i64 a).wf = true) : Fit a := by
 simpa [Lit.wf,IntKind.min,IntKind.max,IntKind.signed,IntKind.bits,Fit] using h
end Go.Proofs.YtjpfpojbalepeaaGreat
set_option linter.unusedVariables false
namespace Go.Proofs.YtjpfpojbalepeaaGreat
open Go.RowKit
section
variable {P : Program} {ops : Array Oper} {Q : Exit → Act → World → Prop} {md : Region.Mode} {S : World → Prop} {x : Nat}
def waits (md : Region.Mode) (ops : Array Oper) (x i : Nat) : Bool := match ops[x]? with
 | some o => o.after.any fun e => Region.binds md e && e.on == i
 | none => true
end
end Go.Proofs.YtjpfpojbalepeaaGreat
namespace Go.Proofs.YtjpfpojbalepeaaGreat
open Go.RowKit
def txt (s : ByteArray) : List UInt8 := s.data.toList
theorem txt_len (s : ByteArray) : (txt s).length = s.size := Array.length_toList
theorem txt_ext {s t : ByteArray} (h : txt s = txt t) : s = t := by
 cases s; cases t
 simp only [txt] at h
 exact congrArg ByteArray.mk (Array.toList_inj.1 h)
theorem tl (s : ByteArray) : s.toList = txt s := ByteArray.toList_eq s
end Go.Proofs.YtjpfpojbalepeaaGreat
namespace Go.Proofs.YtjpfpojbalepeaaGreat.Mem
open Go.RowKit
theorem below_box {w0 w : World} (h : Below w0.heap.size w0 w) (o : Obj) : Below w0.heap.size w0 (w.alloc o) := h.alloc h.size o
theorem bcell {W w1 : World} (hb : Below W.heap.size W w1) : (∀ b o,b < W.heap.size → w1.cell? ⟨b,o,none⟩ = W.cell? ⟨b,o,none⟩) ∧ (∀ b o,b < W.heap.size → w1.frozen? ⟨b,o,none⟩ = W.frozen? ⟨b,o,none⟩) :=
 ⟨fun b o h => hb.cell (p := ⟨b,o,none⟩) h,fun b o h => hb.frozen (p := ⟨b,o,none⟩) h⟩
theorem cell_lt {u : World} {b o : Nat} {v : Value} (h : u.cell? ⟨b,o,none⟩ = some v) : b < u.heap.size := by
 by_cases k : b < u.heap.size
 · exact k
 ·
  exfalso
  simp [World.cell?,Array.getElem?_eq_none (Nat.le_of_not_lt k)] at h
theorem bchain {w0 u v : World} (h : Below w0.heap.size w0 u) (k : Below u.heap.size u v) : Below w0.heap.size w0 v := h.trans (k.mono h.size)
theorem bset {w0 u : World} {p : Nat} (h : Below w0.heap.size w0 u) (hp : w0.heap.size ≤ p) (o : Nat) (x : Value) : Below w0.heap.size w0 (u.setCell ⟨p,o,none⟩ x) := h.setCell hp x
end Go.Proofs.YtjpfpojbalepeaaGreat.Mem
namespace Go.Proofs.YtjpfpojbalepeaaGreat.Sr
open Go.RowKit
open Mem
structure T where
 name : ByteArray
 next : Int
 limit : Int
 shut : Bool
def val (r : T) : Value := .agg #[.string r.name,.int .i64 r.next,.int .i64 r.limit,.bool r.shut]
def Short (r : T) : Prop := r.name.size ≤ 140737488355328 ∧ Fit r.next ∧ Fit r.limit
def box (w : World) (r : T) : World := w.alloc (.cells #[.string r.name,.int .i64 r.next,.int .i64 r.limit,.bool r.shut] 90)
def C (u : World) (b : Nat) (r : T) : Prop :=
 u.cell? ⟨b,0,none⟩ = some (.string r.name) ∧ u.cell? ⟨b,1,none⟩ = some (.int .i64 r.next) ∧ u.cell? ⟨b,2,none⟩ = some (.int .i64 r.limit) ∧ u.cell? ⟨b,3,none⟩ = some (.bool r.shut)
theorem C.below {u v : World} {b : Nat} {r : T} (h : C u b r) (k : Below u.heap.size u v) : C v b r := by
 obtain ⟨h0,h1,h2,h3⟩ := h
 have hl := cell_lt h0
 unfold C
 rw [(bcell k).1 _ _ hl,(bcell k).1 _ _ hl,(bcell k).1 _ _ hl,(bcell k).1 _ _ hl]
 exact ⟨h0,h1,h2,h3⟩
theorem c_box (w : World) (r : T) : C (box w r) w.heap.size r := by
 unfold box C
 simp [go_sem]
theorem box_size (w : World) (r : T) : (box w r).heap.size = w.heap.size + 1 := by
 unfold box
 simp
theorem below_own (w : World) (r : T) : Below w.heap.size w (box w r) := (Below.refl _ _).alloc (Nat.le_refl _) _
theorem boxed1 (w : World) (a : T) : ∃ W,w.alloc (.cells #[.string a.name,.int .i64 a.next,.int .i64 a.limit,.bool a.shut] 90) = W ∧ Below w.heap.size w W ∧ C W w.heap.size a :=
 ⟨_,rfl,below_own w a,c_box w a⟩
end Go.Proofs.YtjpfpojbalepeaaGreat.Sr
namespace Go.Proofs.YtjpfpojbalepeaaGreat.Sr
open Go.RowKit
open Mem
structure At (u : World) (b o : Nat) (r : T) : Prop where
 c0 : u.cell? ⟨b,o,none⟩ = some (.string r.name)
 c1 : u.cell? ⟨b,o + 1,none⟩ = some (.int .i64 r.next)
 c2 : u.cell? ⟨b,o + 2,none⟩ = some (.int .i64 r.limit)
 c3 : u.cell? ⟨b,o + 3,none⟩ = some (.bool r.shut)
theorem At.below {u v : World} {b o : Nat} {r : T} (h : At u b o r) (k : Below u.heap.size u v) : At v b o r := by
 have hl := cell_lt h.c0
 exact ⟨by rw [(bcell k).1 _ _ hl]; exact h.c0,by rw [(bcell k).1 _ _ hl]; exact h.c1,by rw [(bcell k).1 _ _ hl]; exact h.c2,by rw [(bcell k).1 _ _ hl]; exact h.c3⟩
def Seg (w : World) (ao : Option Addr) (rs : List T) : Prop := rs = [] ∨ ∃ b off,ao = some ⟨b,off,none⟩ ∧ ∀ (k : Nat) (hk : k < rs.length),At w b (off + k * 4) rs[k]
theorem Seg.below {w v : World} {ao : Option Addr} {rs : List T} (h : Seg w ao rs) (k : Below w.heap.size w v) : Seg v ao rs := by
 rcases h with h | ⟨b,off,e,h⟩
 · exact .inl h
 · exact .inr ⟨b,off,e,fun i hi => (h i hi).below k⟩
structure Ls (w : World) (ao : Option Addr) (n cap : Nat) (rs : List T) : Prop where
 len : n = rs.length
 fits : n ≤ cap
 reach : cap ≤ 9223372036854775807
 nil : ao = none → cap = 0
 seg : Seg w ao rs
 short : ∀ r ∈ rs,Short r
theorem Ls.below {w v : World} {ao : Option Addr} {n cap : Nat} {rs : List T} (h : Ls w ao n cap rs) (k : Below w.heap.size w v) : Ls v ao n cap rs :=
 ⟨h.len,h.fits,h.reach,h.nil,h.seg.below k,h.short⟩
theorem Ls.at {w : World} {ao : Option Addr} {n cap : Nat} {rs : List T} (h : Ls w ao n cap rs) (hn : 0 < n) : ∃ b off,ao = some ⟨b,off,none⟩ := by
 rcases h.seg with e | ⟨b,off,e,_⟩
 ·
  have := h.len
  rw [e] at this
  simp at this
  omega
 · exact ⟨b,off,e⟩
theorem Ls.row {w : World} {b off n cap : Nat} {rs : List T} (h : Ls w (some ⟨b,off,none⟩) n cap rs) (k : Nat) (hk : k < rs.length) : At w b (off + k * 4) rs[k] := by
 rcases h.seg with e | ⟨b',off',e,hs⟩
 ·
  subst e
  simp at hk
 ·
  cases e
  exact hs k hk
theorem ls_nil (w : World) : Ls w none 0 0 [] := ⟨rfl,Nat.le_refl _,by omega,fun _ => rfl,.inl rfl,by simp⟩
theorem und : Tryz.prog.underlying 37 = some (.slice (Tryz.prog.elem 37)) := by kernel_rfl
theorem size (u : World) : (sizeOf (Tryz.prog.elem 37)).run Tryz.prog u = .ok 4 u := by
 have h : (Tryz.prog.info? (Tryz.prog.elem 37)).map (·.size) = some 4 := by kernel_rfl
 obtain ⟨i,hi,hs⟩ := Option.map_eq_some_iff.1 h
 simp [sizeOf,typeInfo,hi,hs]
theorem Ls.to {w : World} {ao : Option Addr} {n cap : Nat} {rs : List T} (h : Ls w ao n cap rs) (k : Nat) (hk : k ≤ n) :
  (∀ u,(Instr.slice 37 (.slice ao n cap) none (some (.int .i64 (k : Int))) none).run Tryz.prog u = .ok (.slice ao k cap) u) ∧ Ls w ao k cap (rs.take k) := by
 have hl := h.len
 have hf := h.fits
 refine ⟨fun u => ?_,⟨by rw [List.length_take]; omega,by omega,h.reach,h.nil,?_,fun r hr => h.short r (List.mem_of_mem_take hr)⟩⟩
 ·
  rw [run_slice_h u 37 ao n cap und .i64 k (by omega) (by omega),size]
  have e : Option.map (fun x : Addr => x.add 0) ao = ao := by cases ao <;> simp [Addr.add]
  simp [Result.andThen,sliced,e]
 ·
  rcases h.seg with e | ⟨b,off,e,hc⟩
  · exact .inl (by rw [e]; simp)
  ·
   refine .inr ⟨b,off,e,fun j hj => ?_⟩
   rw [List.length_take] at hj
   rw [List.getElem_take]
   exact hc j (by omega)
theorem Ls.from {w : World} {ao : Option Addr} {n cap : Nat} {rs : List T} (h : Ls w ao n cap rs) (k : Nat) (hk : k ≤ n) :
  ∃ ao2 cap2,(∀ u,(Instr.slice 37 (.slice ao n cap) (some (.int .i64 (k : Int))) none none).run Tryz.prog u = .ok (.slice ao2 (n - k) cap2) u) ∧ Ls w ao2 (n - k) cap2 (rs.drop k) := by
 have hl := h.len
 have hf := h.fits
 refine ⟨if cap = k then ao else ao.map (·.add (k * 4)),cap - k,fun u => ?_,⟨by rw [List.length_drop]; omega,by omega,by have := h.reach; omega,?_,?_,fun r hr => h.short r (List.mem_of_mem_drop hr)⟩⟩
 ·
  rw [run_slice_l u 37 ao n cap und .i64 k (by omega) (by omega),size]
  simp [Result.andThen,sliced]
 ·
  by_cases e : cap = k
  · omega
  ·
   rw [if_neg e]
   cases ao with
   | none => have := h.nil rfl; omega
   | some a => exact fun k => by cases k
 ·
  by_cases hkn : k = n
  · exact .inl (List.drop_eq_nil_of_le (by omega))
  ·
   rcases h.seg with e | ⟨b,off,rfl,hc⟩
   · exact .inl (by rw [e]; simp)
   ·
    refine .inr ⟨b,off + k * 4,?_,fun j hj => ?_⟩
    ·
     rw [if_neg (by omega)]
     unfold Addr.add
     simp only [Option.map_some,Option.some.injEq]
     split
     ·
      rename_i e
      rw [e]
      rfl
     · rfl
    ·
     rw [List.length_drop] at hj
     rw [List.getElem_drop,show off + k * 4 + j * 4 = off + (k + j) * 4 by omega]
     exact hc (k + j) (by omega)
end Go.Proofs.YtjpfpojbalepeaaGreat.Sr
namespace Go.Proofs.YtjpfpojbalepeaaGreat.Dt
def leapB (y : Int) : Bool := decide (y % 4 = 0 ∧ (y % 100 ≠ 0 ∨ y % 400 = 0))
def lp (y : Int) : Int := if leapB y = true then 1 else 0
theorem lp_01 (y : Int) : 0 ≤ lp y ∧ lp y ≤ 1 := by
 unfold lp
 split <;> omega
theorem lp_true {y : Int} (h : leapB y = true) : lp y = 1 := if_pos h
theorem lp_false {y : Int} (h : leapB y = false) : lp y = 0 := if_neg (by rw [h]; simp)
theorem leap_iff (y : Int) : leapB y = true ↔ y % 4 = 0 ∧ (y % 100 ≠ 0 ∨ y % 400 = 0) := decide_eq_true_iff
def len (y m : Int) : Int := if m = 2 then 28 + lp y else if m = 4 ∨ m = 6 ∨ m = 9 ∨ m = 11 then 30 else if 1 ≤ m ∧ m ≤ 12 then 31 else 0
theorem len_2 (y : Int) : len y 2 = 28 + lp y := if_pos rfl
theorem len_30 {y m : Int} (h : m = 4 ∨ m = 6 ∨ m = 9 ∨ m = 11) : len y m = 30 := by
 unfold len
 rw [if_neg (by omega),if_pos h]
theorem len_31 {y m : Int} (h : m = 1 ∨ m = 3 ∨ m = 5 ∨ m = 7 ∨ m = 8 ∨ m = 10 ∨ m = 12) : len y m = 31 := by
 unfold len
 rw [if_neg (by omega),if_neg (by omega),if_pos (by omega)]
theorem len_0 {y m : Int} (h : m < 1 ∨ 12 < m) : len y m = 0 := by
 unfold len
 rw [if_neg (by omega),if_neg (by omega),if_neg (by omega)]
theorem len_bd (y m : Int) : 0 ≤ len y m ∧ len y m ≤ 31 := by
 have := lp_01 y
 unfold len
 split
 · omega
 ·
  split
  · omega
  · split <;> omega
theorem len_lo {y m : Int} (h0 : 1 ≤ m) (h1 : m ≤ 12) : 28 ≤ len y m := by
 have := lp_01 y
 unfold len
 split
 · omega
 ·
  split
  · omega
  · rw [if_pos ⟨h0,h1⟩]; omega
theorem len_month {y m : Int} (h : 1 ≤ len y m) : 1 ≤ m ∧ m ≤ 12 := by
 by_cases h1 : m < 1 ∨ 12 < m
 · rw [len_0 h1] at h; omega
 · omega
def cum (y m : Int) : Int :=
 (if m ≤ 1 then 0 else if m = 2 then 31 else if m = 3 then 59 else if m = 4 then 90 else if m = 5 then 120 else if m = 6 then 151 else if m = 7 then 181 else if m = 8 then 212 else if m = 9 then 243 else if m = 10 then 273 else if m = 11 then 304 else if m = 12 then 334 else 365)
  + (if m ≤ 2 then 0 else lp y)
theorem cum_1 (y : Int) : cum y 1 = 0 := rfl
theorem cum_13 (y : Int) : cum y 13 = 365 + lp y := rfl
theorem cum_succ (y m : Int) (h0 : 1 ≤ m) (h1 : m ≤ 12) : cum y (m + 1) = cum y m + len y m := by
 have h : m = 1 ∨ m = 2 ∨ m = 3 ∨ m = 4 ∨ m = 5 ∨ m = 6 ∨ m = 7 ∨ m = 8 ∨ m = 9 ∨ m = 10 ∨ m = 11 ∨ m = 12 := by omega
 rcases h with rfl | rfl | rfl | rfl | rfl | rfl | rfl | rfl | rfl | rfl | rfl | rfl <;> simp [cum,len] <;> omega
theorem cum_mono (y m : Int) : ∀ (k : Nat),1 ≤ m → m + k ≤ 13 → cum y m + 28 * k ≤ cum y (m + k)
 | 0,_,_ => by simp
 | k + 1,h0,h1 => by
  have h := cum_mono y m k h0 (by omega)
  have h2 := cum_succ y (m + k) (by omega) (by omega)
  have h3 := len_lo (y := y) (show 1 ≤ m + (k : Int) by omega) (show m + (k : Int) ≤ 12 by omega)
  have e : m + ((k + 1 : Nat) : Int) = m + k + 1 := by omega
  rw [e,h2]
  omega
theorem cum_le {y m n : Int} (h0 : 1 ≤ m) (h1 : m ≤ n) (h2 : n ≤ 13) : cum y m ≤ cum y n := by
 have h := cum_mono y m (n - m).toNat h0 (by omega)
 rw [show m + ((n - m).toNat : Int) = n by omega] at h
 omega
theorem cum_bd {y m : Int} (h0 : 1 ≤ m) (h1 : m ≤ 13) : 0 ≤ cum y m ∧ cum y m ≤ 366 := by
 have h := cum_le (y := y) (show (1 : Int) ≤ 1 by omega) h0 h1
 have h2 := cum_le (y := y) h0 h1 (show (13 : Int) ≤ 13 by omega)
 rw [cum_1] at h
 rw [cum_13] at h2
 have := lp_01 y
 omega
def yd (y : Int) : Int := 365 * (y - 1) + (y - 1) / 4 - (y - 1) / 100 + (y - 1) / 400
theorem yd_1 : yd 1 = 0 := rfl
theorem yd_last : yd 10000 = 3652059 := rfl
theorem yd_succ (y : Int) : yd (y + 1) = yd y + 365 + lp y := by
 unfold yd lp
 split
 ·
  rename_i h
  rw [leap_iff] at h
  omega
 ·
  rename_i h
  rw [leap_iff] at h
  omega
theorem yd_mono (y : Int) : ∀ (k : Nat),yd y + 365 * k ≤ yd (y + k)
 | 0 => by simp
 | k + 1 => by
  have h := yd_mono y k
  have h2 := yd_succ (y + k)
  have := lp_01 (y + k)
  have e : y + ((k + 1 : Nat) : Int) = y + k + 1 := by omega
  rw [e,h2]
  omega
theorem yd_le {y z : Int} (h : y ≤ z) : yd y + 365 * (z - y) ≤ yd z := by
 have h1 := yd_mono y (z - y).toNat
 rw [show y + ((z - y).toNat : Int) = z by omega] at h1
 omega
theorem yd_bd {y : Int} (h0 : 1 ≤ y) (h1 : y ≤ 10000) : 0 ≤ yd y ∧ yd y ≤ 3652059 := by
 have h2 := yd_le h0
 have h3 := yd_le h1
 rw [yd_1] at h2
 rw [yd_last] at h3
 omega
def rightB (y m d : Int) : Bool := decide (1 ≤ y ∧ y ≤ 9999 ∧ 1 ≤ d ∧ d ≤ len y m)
theorem right_iff (y m d : Int) : rightB y m d = true ↔ 1 ≤ y ∧ y ≤ 9999 ∧ 1 ≤ d ∧ d ≤ len y m := decide_eq_true_iff
theorem right_bd {y m d : Int} (h : rightB y m d = true) : 1 ≤ y ∧ y ≤ 9999 ∧ 1 ≤ m ∧ m ≤ 12 ∧ 1 ≤ d ∧ d ≤ 31 := by
 obtain ⟨h1,h2,h3,h4⟩ := (right_iff y m d).1 h
 have h5 := len_month (y := y) (m := m) (by omega)
 have h6 := len_bd y m
 omega
def num (y m d : Int) : Int := yd y + cum y m + d - 1
def days (y m d : Int) : Int := if rightB y m d = true then num y m d else -1
theorem days_right {y m d : Int} (h : rightB y m d = true) : days y m d = num y m d := if_pos h
theorem days_not {y m d : Int} (h : rightB y m d = false) : days y m d = -1 := if_neg (by rw [h]; simp)
theorem num_hi {y m d : Int} (h : rightB y m d = true) : yd y + cum y m ≤ num y m d ∧ num y m d < yd y + cum y (m + 1) ∧ num y m d < yd (y + 1) := by
 obtain ⟨h1,h2,h3,h4⟩ := (right_iff y m d).1 h
 obtain ⟨_,_,h5,h6,_,_⟩ := right_bd h
 have h7 := cum_succ y m h5 h6
 have h8 := cum_le (y := y) (show 1 ≤ m + 1 by omega) (show m + 1 ≤ 13 by omega) (show (13 : Int) ≤ 13 by omega)
 rw [cum_13] at h8
 have h9 := yd_succ y
 unfold num
 omega
theorem num_bd {y m d : Int} (h : rightB y m d = true) : 0 ≤ num y m d ∧ num y m d ≤ 3652058 := by
 obtain ⟨h1,h2,h3,h4,_,_⟩ := right_bd h
 have h5 := yd_bd h1 (show y ≤ 10000 by omega)
 have h6 := cum_bd (y := y) h3 (show m ≤ 13 by omega)
 have h7 := num_hi h
 have h8 := yd_bd (show 1 ≤ y + 1 by omega) (show y + 1 ≤ 10000 by omega)
 omega
def Lex (y m d z n e : Int) : Prop := y < z ∨ (y = z ∧ (m < n ∨ (m = n ∧ d < e)))
theorem lex_lt {y m d z n e : Int} (ha : rightB y m d = true) (hb : rightB z n e = true) (h : Lex y m d z n e) : num y m d < num z n e := by
 have h1 := num_hi ha
 have h2 := num_hi hb
 obtain ⟨_,_,a3,a4,_,_⟩ := right_bd ha
 obtain ⟨_,_,b3,b4,_,_⟩ := right_bd hb
 rcases h with h | ⟨rfl,h | ⟨rfl,h⟩⟩
 ·
  have h3 := yd_le (show y + 1 ≤ z by omega)
  have h4 := cum_bd (y := z) b3 (show n ≤ 13 by omega)
  omega
 ·
  have h3 := cum_le (y := y) (show 1 ≤ m + 1 by omega) (show m + 1 ≤ n by omega) (show n ≤ 13 by omega)
  omega
 ·
  unfold num
  omega
theorem lex_three (y m d z n e : Int) : Lex y m d z n e ∨ (y = z ∧ m = n ∧ d = e) ∨ Lex z n e y m d := by
 unfold Lex
 omega
theorem num_inj {y m d z n e : Int} (ha : rightB y m d = true) (hb : rightB z n e = true) (h : num y m d = num z n e) : y = z ∧ m = n ∧ d = e := by
 rcases lex_three y m d z n e with h1 | h1 | h1
 ·
  have := lex_lt ha hb h1
  omega
 · exact h1
 ·
  have := lex_lt hb ha h1
  omega
end Go.Proofs.YtjpfpojbalepeaaGreat.Dt
namespace Go.Proofs.YtjpfpojbalepeaaGreat.Dt
def isDig (b : UInt8) : Bool := decide (48 ≤ b.toNat ∧ b.toNat ≤ 57)
theorem less_cons (a b : UInt8) (x y : List UInt8) : Op.bytesLess (a :: x) (b :: y) = true ↔ a < b ∨ (a = b ∧ Op.bytesLess x y = true) := by
 simp [Op.bytesLess]
theorem less_same (a : UInt8) (x y : List UInt8) : Op.bytesLess (a :: x) (a :: y) = true ↔ Op.bytesLess x y = true := by
 simp [Op.bytesLess]
theorem less_nil (x : List UInt8) : Op.bytesLess x [] = false := by
 cases x <;> rfl
end Go.Proofs.YtjpfpojbalepeaaGreat.Dt
namespace Go.Proofs.YtjpfpojbalepeaaGreat.Rn
open Go.Lib
theorem dw (l : List UInt8) : 1 ≤ (decodeL l).2 := decodeL_width l
theorem dle (l : List UInt8) (h : l ≠ []) : (decodeL l).2 ≤ l.length := decodeL_le l h
def runesF : Nat → List UInt8 → List Nat
 | 0,_ => []
 | f + 1,l => if l = [] then [] else (decodeL l).1 :: runesF f (l.drop (decodeL l).2)
def runes (l : List UInt8) : List Nat := runesF l.length l
theorem runesF_fuel : ∀ (n m : Nat) (l : List UInt8),l.length ≤ n → l.length ≤ m → runesF n l = runesF m l
 | 0,0,_,_,_ => rfl
 | 0,m + 1,l,hn,_ => by
  have : l = [] := List.eq_nil_of_length_eq_zero (by omega)
  simp [runesF,this]
 | n + 1,0,l,_,hm => by
  have : l = [] := List.eq_nil_of_length_eq_zero (by omega)
  simp [runesF,this]
 | n + 1,m + 1,l,hn,hm => by
  by_cases hne : l = []
  · simp [runesF,hne]
  ·
   have hw := dw l
   have hl : 0 < l.length := List.length_pos_iff.2 hne
   simp only [runesF,if_neg hne]
   rw [runesF_fuel n m _ (by rw [List.length_drop]; omega) (by rw [List.length_drop]; omega)]
theorem runes_step (l : List UInt8) (hne : l ≠ []) : runes l = (decodeL l).1 :: runes (l.drop (decodeL l).2) := by
 have hw := dw l
 have hl : 0 < l.length := List.length_pos_iff.2 hne
 unfold runes
 obtain ⟨n,hn⟩ : ∃ n,l.length = n + 1 := ⟨l.length - 1,by omega⟩
 rw [hn]
 simp only [runesF,if_neg hne]
 rw [runesF_fuel n _ _ (by rw [List.length_drop]; omega) (Nat.le_refl _)]
def letter (r : Int) : Bool := (decide (97 ≤ r ∧ r ≤ 122) || decide (65 ≤ r ∧ r ≤ 90)) || decide (192 ≤ r ∧ r ≤ 591 ∧ r ≠ 215 ∧ r ≠ 247)
def digit (r : Int) : Bool := decide (48 ≤ r ∧ r ≤ 57)
def inner (r : Int) : Bool := digit r || decide (r = 45 ∨ r = 95 ∨ r = 46)
def nameOk : Bool → List Nat → Bool
 | _,[] => true
 | first,r :: rs => (letter r || (!first && inner r)) && nameOk false rs
def name (l : List UInt8) : Bool := (!l.isEmpty && decide (l.length ≤ 24)) && nameOk true (runes l)
end Go.Proofs.YtjpfpojbalepeaaGreat.Rn
namespace Go.Proofs.YtjpfpojbalepeaaGreat.Vt
theorem less_irrefl : ∀ l : List UInt8,Op.bytesLess l l = false
 | [] => rfl
 | a :: l => by
  have h := less_irrefl l
  rw [Bool.eq_false_iff]
  intro k
  rw [Dt.less_same,h] at k
  cases k
theorem less_trans : ∀ a b c : List UInt8,Op.bytesLess a b = true → Op.bytesLess b c = true → Op.bytesLess a c = true
 | _,_,[],_,h => by rw [Dt.less_nil] at h; cases h
 | _,[],_ :: _,h,_ => by rw [Dt.less_nil] at h; cases h
 | [],_ :: _,_ :: _,_,_ => rfl
 | x :: a,y :: b,z :: c,h,k => by
  rw [Dt.less_cons] at h k ⊢
  rcases h with h | ⟨rfl,h⟩
  ·
   rcases k with k | ⟨rfl,k⟩
   · exact .inl (UInt8.lt_trans h k)
   · exact .inl h
  ·
   rcases k with k | ⟨rfl,k⟩
   · exact .inl k
   · exact .inr ⟨rfl,less_trans a b c h k⟩
theorem less_tri : ∀ a b : List UInt8,Op.bytesLess a b = true ∨ a = b ∨ Op.bytesLess b a = true
 | [],[] => .inr (.inl rfl)
 | [],_ :: _ => .inl rfl
 | _ :: _,[] => .inr (.inr rfl)
 | x :: a,y :: b => by
  rw [Dt.less_cons,Dt.less_cons]
  have h3 : x.toNat < y.toNat ∨ x.toNat = y.toNat ∨ y.toNat < x.toNat := by omega
  rcases h3 with h | h | h
  · exact .inl (.inl (UInt8.lt_iff_toNat_lt.2 h))
  ·
   obtain rfl : x = y := UInt8.toNat_inj.1 h
   rcases less_tri a b with k | rfl | k
   · exact .inl (.inr ⟨rfl,k⟩)
   · exact .inr (.inl rfl)
   · exact .inr (.inr (.inr ⟨rfl,k⟩))
  · exact .inr (.inr (.inl (UInt8.lt_iff_toNat_lt.2 h)))
structure Rt where
 cat : ByteArray
 y : Int
 m : Int
 d : Int
 bp : Int
def dy (r : Rt) : Int := Dt.days r.y r.m r.d
def lt (a b : Rt) : Bool := if a.cat = b.cat then decide (dy a < dy b) else Op.bytesLess a.cat.toList b.cat.toList
theorem lt_same {a b : Rt} (h : a.cat = b.cat) : lt a b = decide (dy a < dy b) := if_pos h
theorem lt_other {a b : Rt} (h : a.cat ≠ b.cat) : lt a b = Op.bytesLess a.cat.toList b.cat.toList := if_neg h
theorem cat_ext {a b : ByteArray} (h : a.toList = b.toList) : a = b := txt_ext (by rw [← tl,← tl]; exact h)
theorem lt_trans {a b c : Rt} (h : lt a b = true) (k : lt b c = true) : lt a c = true := by
 by_cases e : a.cat = b.cat
 ·
  rw [lt_same e,decide_eq_true_iff] at h
  by_cases f : b.cat = c.cat
  ·
   rw [lt_same f,decide_eq_true_iff] at k
   rw [lt_same (e.trans f),decide_eq_true_iff]
   omega
  ·
   rw [lt_other f] at k
   rw [lt_other (by rw [e]; exact f),e]
   exact k
 ·
  rw [lt_other e] at h
  by_cases f : b.cat = c.cat
  ·
   rw [lt_other (by rw [← f]; exact e),← f]
   exact h
  ·
   rw [lt_other f] at k
   have t := less_trans _ _ _ h k
   rw [lt_other]
   · exact t
   ·
    intro g
    rw [g] at h
    have := less_trans _ _ _ h k
    rw [less_irrefl] at this
    cases this
theorem lt_irrefl (a : Rt) : lt a a = false := by
 rw [lt_same rfl]
 exact decide_eq_false (by omega)
theorem lt_asymm {a b : Rt} (h : lt a b = true) : lt b a = false := by
 rw [Bool.eq_false_iff]
 intro k
 have := lt_trans h k
 rw [lt_irrefl] at this
 cases this
theorem lt_tri (a b : Rt) : lt a b = true ∨ (a.cat = b.cat ∧ dy a = dy b) ∨ lt b a = true := by
 by_cases e : a.cat = b.cat
 ·
  rw [lt_same e,lt_same e.symm,decide_eq_true_iff,decide_eq_true_iff]
  have : dy a < dy b ∨ dy a = dy b ∨ dy b < dy a := by omega
  rcases this with h | h | h
  · exact .inl h
  · exact .inr (.inl ⟨e,h⟩)
  · exact .inr (.inr h)
 ·
  rw [lt_other e,lt_other fun k => e k.symm]
  rcases less_tri a.cat.toList b.cat.toList with h | h | h
  · exact .inl h
  · exact absurd (cat_ext h) e
  · exact .inr (.inr h)
def rowE (r : Rt) : Int := if Rn.name (txt r.cat) = false then 8 else if Dt.rightB r.y r.m r.d = false then 9 else if r.bp < 0 ∨ 100000 < r.bp then 10 else 0
theorem rowE_0 {r : Rt} : rowE r = 0 ↔ Rn.name (txt r.cat) = true ∧ Dt.rightB r.y r.m r.d = true ∧ 0 ≤ r.bp ∧ r.bp ≤ 100000 := by
 unfold rowE
 cases Rn.name (txt r.cat)
 · simp
 ·
  cases Dt.rightB r.y r.m r.d
  · simp
  · simp
theorem rowE_name {r : Rt} (h : Rn.name (txt r.cat) = false) : rowE r = 8 := if_pos h
theorem rowE_day {r : Rt} (h : Rn.name (txt r.cat) = true) (k : Dt.rightB r.y r.m r.d = false) : rowE r = 9 := by
 unfold rowE
 rw [if_neg (by rw [h]; simp),if_pos k]
theorem rowE_bp {r : Rt} (h : Rn.name (txt r.cat) = true) (k : Dt.rightB r.y r.m r.d = true) (l : r.bp < 0 ∨ 100000 < r.bp) : rowE r = 10 := by
 unfold rowE
 rw [if_neg (by rw [h]; simp),if_neg (by rw [k]; simp),if_pos l]
def ok (p : Option Rt) (r : Rt) : Bool := decide (rowE r = 0) && (match p with | none => true | some q => lt q r)
def okAll : Option Rt → List Rt → Bool
 | _,[] => true
 | p,r :: l => ok p r && okAll (some r) l
def tableB (l : List Rt) : Bool := decide (l.length ≤ 24) && okAll none l
def Sorted (l : List Rt) : Prop := l.Pairwise fun a b => lt a b = true
theorem okAll_iff : ∀ (l : List Rt) (p : Option Rt),okAll p l = true ↔ (∀ r ∈ l,rowE r = 0) ∧ Sorted l ∧ (∀ q,p = some q → ∀ r ∈ l,lt q r = true)
 | [],p => by simp [okAll,Sorted]
 | a :: l,p => by
  have ih := okAll_iff l (some a)
  rw [okAll,Bool.and_eq_true,ih]
  unfold ok Sorted
  rw [Bool.and_eq_true,decide_eq_true_iff,List.pairwise_cons]
  constructor
  ·
   rintro ⟨⟨h1,h2⟩,h3,h4,h5⟩
   refine ⟨?_,⟨h5 a rfl,h4⟩,?_⟩
   ·
    intro r hr
    rcases List.mem_cons.1 hr with rfl | hr
    · exact h1
    · exact h3 r hr
   ·
    rintro q rfl r hr
    rcases List.mem_cons.1 hr with rfl | hr
    · exact h2
    · exact lt_trans h2 (h5 a rfl r hr)
  ·
   rintro ⟨h1,⟨h2,h3⟩,h4⟩
   refine ⟨⟨h1 a (List.mem_cons_self ..),?_⟩,fun r hr => h1 r (List.mem_cons_of_mem _ hr),h3,?_⟩
   ·
    cases p with
    | none => rfl
    | some q => exact h4 q rfl a (List.mem_cons_self ..)
   ·
    rintro q ⟨⟩ r hr
    exact h2 r hr
theorem table_iff (l : List Rt) : tableB l = true ↔ l.length ≤ 24 ∧ (∀ r ∈ l,rowE r = 0) ∧ Sorted l := by
 unfold tableB
 rw [Bool.and_eq_true,decide_eq_true_iff,okAll_iff]
 simp
theorem table_long {l : List Rt} (h : 24 < l.length) : tableB l = false := by
 unfold tableB
 rw [decide_eq_false (by omega)]
 rfl
theorem table_short {l : List Rt} (h : l.length ≤ 24) : tableB l = okAll none l := by
 unfold tableB
 rw [decide_eq_true h]
 rfl
def prevAt (l : List Rt) (k : Nat) : Option Rt := if k = 0 then none else l[k - 1]?
theorem okAll_at (l : List Rt) (k : Nat) (h : k < l.length) : okAll (prevAt l k) (l.drop k) = (ok (prevAt l k) l[k] && okAll (prevAt l (k + 1)) (l.drop (k + 1))) := by
 rw [List.drop_eq_getElem_cons h,okAll]
 congr 2
 unfold prevAt
 rw [if_neg (by omega),Nat.add_sub_cancel,List.getElem?_eq_getElem h]
def spot (r : Rt) : List Rt → Nat
 | [] => 0
 | a :: l => if lt a r = true then spot r l + 1 else 0
theorem spot_le (r : Rt) : ∀ l,spot r l ≤ l.length
 | [] => Nat.le_refl _
 | a :: l => by
  have := spot_le r l
  unfold spot
  split
  · simp; omega
  · simp
def putL (l : List Rt) (r : Rt) : List Rt := l.take (spot r l) ++ r :: l.drop (spot r l)
def taken (l : List Rt) (r : Rt) : Bool := match l[spot r l]? with | none => false | some a => !(lt r a)
def putE (l : List Rt) (r : Rt) : Int := if tableB l = false then 1 else if rowE r ≠ 0 then rowE r else if taken l r = true then 12 else if 24 ≤ l.length then 2 else 0
def putR (l : List Rt) (r : Rt) : List Rt := if putE l r = 0 then putL l r else []
theorem putE_0 {l : List Rt} {r : Rt} (h : putE l r = 0) : tableB l = true ∧ rowE r = 0 ∧ taken l r = false ∧ l.length < 24 := by
 unfold putE at h
 cases ht : tableB l
 · rw [if_pos ht] at h; omega
 ·
  rw [if_neg (by rw [ht]; simp)] at h
  by_cases hr : rowE r = 0
  ·
   rw [if_neg (by simpa using hr)] at h
   cases hk : taken l r
   ·
    rw [if_neg (by rw [hk]; simp)] at h
    by_cases hl : 24 ≤ l.length
    · rw [if_pos hl] at h; omega
    · exact ⟨rfl,hr,rfl,by omega⟩
   · rw [if_pos hk] at h; omega
  ·
   rw [if_pos hr] at h
   exact absurd h hr
theorem putL_cons {a : Rt} {l : List Rt} {r : Rt} (h : lt a r = true) : putL (a :: l) r = a :: putL l r := by
 have e : spot r (a :: l) = spot r l + 1 := if_pos h
 unfold putL
 rw [e]
 rfl
theorem putL_head {a : Rt} {l : List Rt} {r : Rt} (h : lt a r = false) : putL (a :: l) r = r :: a :: l := by
 have e : spot r (a :: l) = 0 := if_neg (by rw [h]; simp)
 unfold putL
 rw [e]
 rfl
theorem putL_perm (r : Rt) : ∀ l,(putL l r).Perm (r :: l)
 | [] => List.Perm.refl _
 | a :: l => by
  cases h : lt a r
  · rw [putL_head h]
  ·
   rw [putL_cons h]
   exact ((putL_perm r l).cons a).trans (List.Perm.swap r a l)
theorem putL_len (r : Rt) (l : List Rt) : (putL l r).length = l.length + 1 := by
 have := (putL_perm r l).length_eq
 simpa using this
theorem taken_cons {a : Rt} {l : List Rt} {r : Rt} (h : lt a r = true) : taken (a :: l) r = taken l r := by
 have e : spot r (a :: l) = spot r l + 1 := if_pos h
 unfold taken
 rw [e]
 rfl
theorem taken_head {a : Rt} {l : List Rt} {r : Rt} (h : lt a r = false) : taken (a :: l) r = !(lt r a) := by
 have e : spot r (a :: l) = 0 := if_neg (by rw [h]; simp)
 unfold taken
 rw [e]
 rfl
theorem putL_sorted (r : Rt) : ∀ l,Sorted l → taken l r = false → Sorted (putL l r)
 | [],_,_ => List.pairwise_singleton _ _
 | a :: l,h,k => by
  unfold Sorted at h
  rw [List.pairwise_cons] at h
  cases hl : lt a r
  ·
   rw [taken_head hl] at k
   have hra : lt r a = true := by simpa using k
   rw [putL_head hl]
   unfold Sorted
   rw [List.pairwise_cons,List.pairwise_cons]
   refine ⟨fun b hb => ?_,h⟩
   rcases List.mem_cons.1 hb with rfl | hb
   · exact hra
   · exact lt_trans hra (h.1 b hb)
  ·
   rw [taken_cons hl] at k
   rw [putL_cons hl]
   unfold Sorted
   rw [List.pairwise_cons]
   refine ⟨fun b hb => ?_,putL_sorted r l h.2 k⟩
   rcases List.mem_cons.1 ((putL_perm r l).mem_iff.1 hb) with rfl | hb
   · exact hl
   · exact h.1 b hb
theorem put_table {l : List Rt} {r : Rt} (h : putE l r = 0) : tableB (putL l r) = true := by
 obtain ⟨h1,h2,h3,h4⟩ := putE_0 h
 obtain ⟨k1,k2,k3⟩ := (table_iff l).1 h1
 refine (table_iff _).2 ⟨by rw [putL_len]; omega,fun b hb => ?_,putL_sorted r l k3 h3⟩
 rcases List.mem_cons.1 ((putL_perm r l).mem_iff.1 hb) with rfl | hb
 · exact h2
 · exact k2 b hb
def hit (c : ByteArray) (n : Int) (r : Rt) : Bool := decide (r.cat = c) && decide (dy r ≤ n)
def last (c : ByteArray) (n : Int) : Int × Bool → List Rt → Int × Bool
 | acc,[] => acc
 | acc,r :: l => last c n (if hit c n r = true then (r.bp,true) else acc) l
def find (l : List Rt) (c : ByteArray) (y m d : Int) : Int × Bool := if (tableB l && Dt.rightB y m d) = true then last c (Dt.days y m d) (0,false) l else (0,false)
theorem find_right {l : List Rt} {c : ByteArray} {y m d : Int} (h : tableB l = true) (k : Dt.rightB y m d = true) : find l c y m d = last c (Dt.days y m d) (0,false) l := by
 unfold find
 rw [h,k]
 rfl
theorem find_not {l : List Rt} {c : ByteArray} {y m d : Int} (h : tableB l = false ∨ Dt.rightB y m d = false) : find l c y m d = (0,false) := by
 unfold find
 rw [if_neg]
 intro k
 rw [Bool.and_eq_true] at k
 rcases h with h | h
 · rw [h] at k; cases k.1
 · rw [h] at k; cases k.2
end Go.Proofs.YtjpfpojbalepeaaGreat.Vt
namespace Go.Proofs.YtjpfpojbalepeaaGreat.Sr
open Go.RowKit
open Mem
def rv (r : T) : List Value := [.string r.name,.int .i64 r.next,.int .i64 r.limit,.bool r.shut]
theorem rv_len (r : T) : (rv r).length = 4 := rfl
theorem flat_len : ∀ rs : List T,(rs.flatMap rv).length = rs.length * 4
 | [] => rfl
 | r :: l => by
  rw [List.flatMap_cons,List.length_append,rv_len,flat_len l,List.length_cons]
  omega
theorem flat_at : ∀ (rs : List T) (k p : Nat) (hk : k < rs.length),p < 4 → (rs.flatMap rv)[k * 4 + p]? = (rv rs[k])[p]?
 | r :: l,0,p,_,hp => by
  rw [List.flatMap_cons,List.getElem?_append_left (by rw [rv_len]; omega),Nat.zero_mul,Nat.zero_add]
  rfl
 | r :: l,k + 1,p,hk,hp => by
  rw [List.flatMap_cons,List.getElem?_append_right (by rw [rv_len]; omega),rv_len,show (k + 1) * 4 + p - 4 = k * 4 + p by omega]
  exact flat_at l k p (by simpa using hk) hp
theorem one_cell (rs : List T) : ∀ v ∈ rs.flatMap rv,v.oneCell' = true := by
 intro v hv
 obtain ⟨r,_,h⟩ := List.mem_flatMap.1 hv
 unfold rv at h
 simp only [List.mem_cons,List.not_mem_nil,or_false] at h
 rcases h with rfl | rfl | rfl | rfl <;> rfl
theorem news_of {w : World} {b off : Nat} {rs : List T} (h : ∀ (k : Nat) (hk : k < rs.length),At w b (off + k * 4) rs[k]) (j : Nat) (u : Value) (hu : (rs.flatMap rv)[j]? = some u) : w.cell? ((⟨b,off,none⟩ : Addr).add j) = some u := by
 have hj : j < (rs.flatMap rv).length := by
  obtain ⟨hj,_⟩ := List.getElem?_eq_some_iff.1 hu
  exact hj
 rw [flat_len] at hj
 obtain ⟨k,p,rfl,hp⟩ : ∃ k p,j = k * 4 + p ∧ p < 4 := ⟨j / 4,j % 4,by omega,by omega⟩
 have hk : k < rs.length := by omega
 rw [flat_at rs k p hk hp] at hu
 have ha : (⟨b,off,none⟩ : Addr).add (k * 4 + p) = ⟨b,off + k * 4 + p,none⟩ := by
  unfold Addr.add
  split
  ·
   rename_i e
   simp only [Addr.mk.injEq,true_and,and_true]
   omega
  ·
   simp only [Addr.mk.injEq,true_and,and_true]
   omega
 rw [ha]
 obtain ⟨c0,c1,c2,c3⟩ := h k hk
 have hp' : p = 0 ∨ p = 1 ∨ p = 2 ∨ p = 3 := by omega
 unfold rv at hu
 rcases hp' with rfl | rfl | rfl | rfl
 all_goals simp at hu
 all_goals subst hu
 · exact c0
 · exact c1
 · exact c2
 · exact c3
def Own (w : World) (B : Nat) (v : Value) (xs : List T) : Prop := w.ownsRow B 90 4 v xs.length (xs.flatMap rv)
theorem own_nil (w : World) (B : Nat) : Own w B (.slice none 0 0) [] := ⟨rfl,.inl ⟨rfl,rfl⟩⟩
theorem own_ls {w : World} {B : Nat} {v : Value} {xs : List T} (h : Own w B v xs) (hs : ∀ r ∈ xs,Short r) : ∃ ao cap,v = .slice ao xs.length cap ∧ Ls w ao xs.length cap xs ∧ (∀ ad,ao = some ad → ∃ g,ad = ⟨g,0,none⟩ ∧ B ≤ g) := by
 rcases h.2 with ⟨h',h2⟩ | ⟨g,cap,cur,h',hb,hg,hnc,hcm,hcs,htake⟩
 ·
  have e : xs = [] := List.length_eq_zero_iff.1 h2
  subst e
  exact ⟨none,0,h',⟨rfl,Nat.le_refl _,by omega,fun _ => rfl,.inl rfl,hs⟩,fun ad k => by cases k⟩
 ·
  refine ⟨some ⟨g,0,none⟩,cap,h',⟨rfl,hnc,hcm,fun k => (by cases k),.inr ⟨g,0,rfl,fun k hk => ?_⟩,hs⟩,fun ad k => by cases k; exact ⟨g,rfl,hb⟩⟩
  have hcell : ∀ p,p < 4 → w.cell? ⟨g,0 + k * 4 + p,none⟩ = (rv xs[k])[p]? := by
   intro p hp
   rw [Nat.zero_add,cell_of_row w g _ _ _ _ hg,← flat_at xs k p hk hp,← htake,List.getElem?_take_of_lt (by omega)]
   simp
  exact ⟨hcell 0 (by omega),hcell 1 (by omega),hcell 2 (by omega),hcell 3 (by omega)⟩
def zero : T := ⟨.empty,0,0,false⟩
def zeroV : Value := .agg #[.string .empty,.int .i64 0,.int .i64 0,.bool false]
theorem info : (Tryz.prog.info? 90).map (fun i => (i.zero,i.size,i.bytes)) = some (some zeroV,4,40) := by kernel_rfl
theorem wp_append {o : Oper} {a : Act} {K : Act → World → Prop} {Q : Exit → Act → World → Prop} (w : World) (s x : Operand)
  (ho : o.op = .call { callee := .builtin .append,args := #[s,x],argTypes := #[37,37] })
  (B : Nat) (v : Value) (xs : List T) (hs : a.eval s = v) (hown : Own w B v xs)
  (ao : Option Addr) (n cap : Nat) (zs : List T) (hx : a.eval x = .slice ao n cap) (hn : n = zs.length) (hnil : ao = none → cap = 0) (hsrc : Seg w ao zs) (hl : (xs.length + n) * 40 ≤ 140737488355328) (hb : B ≤ w.heap.size)
  (h : ∀ v' w1,Own w1 B v' (xs ++ zs) → w.grownBy w1 v.ownBlock → (v'.ownBlock = v.ownBlock ∨ v'.ownBlock = some w.heap.size) → K (a.put o.dst v') w1) : o.wp Tryz.prog a w K Q := by
 have hzs : zeroV.cells.size = 4 := rfl
 obtain ⟨i0,hi,hz0,hz1,hz2⟩ := info_parts info
 have hmx : maxLen = 9223372036854775807 := rfl
 have empty : zs = [] → n = 0 → Own w B v (xs ++ zs) := by
  intro e _
  rw [e,List.append_nil]
  exact hown
 cases ao with
 | none =>
  obtain rfl : cap = 0 := hnil rfl
  rcases hsrc with e | ⟨b,off,e,_⟩
  ·
   obtain rfl : n = 0 := by rw [hn,e]; rfl
   have hrun := run_append_owned_none (P := Tryz.prog) (w := w) B 37 o.type 90 i0 4 Tryz.underlying37 hi v _ _ hown
   unfold Oper.wp
   simp [execOp,ho,resolve,invoke,builtin,hs,hx,hrun,Result.andThen]
   exact h v w (empty e rfl) ⟨rfl,rfl,rfl,Nat.le_refl _,fun _ _ _ => rfl⟩ (.inl rfl)
  · cases e
 | some ad =>
  obtain ⟨v',w',hr,h2,h3,_,h5⟩ := run_append_own_at (P := Tryz.prog) w B 37 o.type 90 i0 zeroV 4 40 Tryz.underlying37 hi hz0 hz1 hz2 hzs (by omega) v xs.length (xs.flatMap rv) hown ad n cap (zs.flatMap rv) (by rw [flat_len,hn]) (by
   rcases hsrc with e | ⟨b,off,e,hc⟩
   ·
    rw [e]
    intro j u hu
    simp at hu
   ·
    cases e
    exact fun j u hu => news_of hc j u hu) (one_cell zs) (by omega) hl hb
  unfold Oper.wp execOp
  simp only [ho,resolve,invoke,builtin,Sem.run_bind,Sem.run_pure,Result.andThen_ok,List.map_toArray,List.map_cons,List.map_nil,hs,hx,hr]
  refine h v' w' ?_ h3 h5
  unfold Own
  rw [List.flatMap_append,List.length_append,← hn]
  exact h2
theorem wpList_append {ops : Array Oper} {rest : List Oper} {o : Oper} {a : Act} {Q : Exit → Act → World → Prop} (w : World) (hgd : o.guard = none) (s x : Operand)
  (ho : o.op = .call { callee := .builtin .append,args := #[s,x],argTypes := #[37,37] })
  (B : Nat) (v : Value) (xs : List T) (hs : a.eval s = v) (hown : Own w B v xs)
  (ao : Option Addr) (n cap : Nat) (zs : List T) (hx : a.eval x = .slice ao n cap) (hn : n = zs.length) (hnil : ao = none → cap = 0) (hsrc : Seg w ao zs) (hl : (xs.length + n) * 40 ≤ 140737488355328) (hb : B ≤ w.heap.size)
  (h : ∀ v' w1,Own w1 B v' (xs ++ zs) → w.grownBy w1 v.ownBlock → (v'.ownBlock = v.ownBlock ∨ v'.ownBlock = some w.heap.size) → wpList Tryz.prog ops Q rest (a.put o.dst v') w1) : wpList Tryz.prog ops Q (o :: rest) a w :=
 wpList_plain hgd fun _ hK => wp_append w s x ho B v xs hs hown ao n cap zs hx hn hnil hsrc hl hb fun v' w1 h1 h2 h3 => hK _ _ (h v' w1 h1 h2 h3)
theorem own_ge {w : World} {B : Nat} {v : Value} {xs : List T} (h : Own w B v xs) : ∀ k,v.ownBlock = some k → B ≤ k := by
 intro k hk
 rcases h.2 with ⟨h',_⟩ | ⟨g,cap,cur,h',hb,_⟩
 ·
  rw [h'] at hk
  cases hk
 ·
  rw [h'] at hk
  simp only [Value.ownBlock,Option.some.injEq] at hk
  omega
theorem own_mono {w : World} {B C : Nat} {v : Value} {xs : List T} (h : Own w B v xs) (hc : C ≤ B) : Own w C v xs := by
 obtain ⟨h1,h2⟩ := h
 refine ⟨h1,?_⟩
 rcases h2 with h2 | ⟨g,cap,cur,h',hb,h3⟩
 · exact .inl h2
 · exact .inr ⟨g,cap,cur,h',by omega,h3⟩
theorem own_alloc {w : World} {B : Nat} {v : Value} {xs : List T} (h : Own w B v xs) (o : Obj) : Own (w.alloc o) B v xs := World.ownsRow.alloc h o
def block (r : T) : Obj := .cells #[.string r.name,.int .i64 r.next,.int .i64 r.limit,.bool r.shut] 90 (0,0)
theorem seg_block {X : World} {g : Nat} {r : T} (h : X.heap[g]? = some (block r)) : Seg X (some ⟨g,0,none⟩) [r] := by
 refine .inr ⟨g,0,rfl,fun k hk => ?_⟩
 obtain rfl : k = 0 := by simpa using hk
 unfold block at h
 refine ⟨?_,?_,?_,?_⟩
 all_goals rw [cell_of_row X g _ _ _ _ h]
 all_goals rfl
end Go.Proofs.YtjpfpojbalepeaaGreat.Sr
namespace Go.Proofs.YtjpfpojbalepeaaGreat.Se
open Sr (T)
def lt (a b : ByteArray) : Bool := Op.bytesLess a.toList b.toList
theorem lt_trans {a b c : ByteArray} (h : lt a b = true) (k : lt b c = true) : lt a c = true := Vt.less_trans _ _ _ h k
theorem lt_irrefl (a : ByteArray) : lt a a = false := Vt.less_irrefl _
theorem lt_tri (a b : ByteArray) : lt a b = true ∨ a = b ∨ lt b a = true := by
 rcases Vt.less_tri a.toList b.toList with h | h | h
 · exact .inl h
 · exact .inr (.inl (Vt.cat_ext h))
 · exact .inr (.inr h)
theorem lt_ne {a b : ByteArray} (h : lt a b = true) : a ≠ b := by
 rintro rfl
 rw [lt_irrefl] at h
 cases h
def lim (n : Int) : Bool := decide (1 ≤ n) && decide (n ≤ 1099511627776)
theorem lim_iff {n : Int} : lim n = true ↔ 1 ≤ n ∧ n ≤ 1099511627776 := by
 unfold lim
 rw [Bool.and_eq_true,decide_eq_true_iff,decide_eq_true_iff]
theorem lim_no {n : Int} : lim n = false ↔ n < 1 ∨ 1099511627776 < n := by
 rw [Bool.eq_false_iff,ne_eq,lim_iff]
 omega
def sound (r : T) : Bool := Rn.name (txt r.name) && (lim r.limit && (decide (1 ≤ r.next) && decide (r.next ≤ r.limit + 1)))
theorem sound_iff {r : T} : sound r = true ↔ Rn.name (txt r.name) = true ∧ lim r.limit = true ∧ 1 ≤ r.next ∧ r.next ≤ r.limit + 1 := by
 unfold sound
 rw [Bool.and_eq_true,Bool.and_eq_true,Bool.and_eq_true,decide_eq_true_iff,decide_eq_true_iff]
theorem sound_no {r : T} (h : Rn.name (txt r.name) = false ∨ lim r.limit = false ∨ r.next < 1 ∨ r.limit + 1 < r.next) : sound r = false := by
 rw [Bool.eq_false_iff]
 intro k
 obtain ⟨k1,k2,k3,k4⟩ := sound_iff.1 k
 rcases h with h | h | h | h
 · rw [k1] at h; cases h
 · rw [k2] at h; cases h
 · omega
 · omega
def ok (p : Option T) (r : T) : Bool := sound r && (match p with | none => true | some q => lt q.name r.name)
def okAll : Option T → List T → Bool
 | _,[] => true
 | p,r :: l => ok p r && okAll (some r) l
def rightB (l : List T) : Bool := decide (l.length ≤ 8) && okAll none l
def Sorted (l : List T) : Prop := l.Pairwise fun a b => lt a.name b.name = true
theorem okAll_iff : ∀ (l : List T) (p : Option T),okAll p l = true ↔ (∀ r ∈ l,sound r = true) ∧ Sorted l ∧ (∀ q,p = some q → ∀ r ∈ l,lt q.name r.name = true)
 | [],p => by simp [okAll,Sorted]
 | a :: l,p => by
  have ih := okAll_iff l (some a)
  rw [okAll,Bool.and_eq_true,ih]
  unfold ok Sorted
  rw [Bool.and_eq_true,List.pairwise_cons]
  constructor
  ·
   rintro ⟨⟨h1,h2⟩,h3,h4,h5⟩
   refine ⟨?_,⟨h5 a rfl,h4⟩,?_⟩
   ·
    intro r hr
    rcases List.mem_cons.1 hr with rfl | hr
    · exact h1
    · exact h3 r hr
   ·
    rintro q rfl r hr
    rcases List.mem_cons.1 hr with rfl | hr
    · exact h2
    · exact lt_trans h2 (h5 a rfl r hr)
  ·
   rintro ⟨h1,⟨h2,h3⟩,h4⟩
   refine ⟨⟨h1 a (List.mem_cons_self ..),?_⟩,fun r hr => h1 r (List.mem_cons_of_mem _ hr),h3,?_⟩
   ·
    cases p with
    | none => rfl
    | some q => exact h4 q rfl a (List.mem_cons_self ..)
   ·
    rintro q ⟨⟩ r hr
    exact h2 r hr
theorem right_iff (l : List T) : rightB l = true ↔ l.length ≤ 8 ∧ (∀ r ∈ l,sound r = true) ∧ Sorted l := by
 unfold rightB
 rw [Bool.and_eq_true,decide_eq_true_iff,okAll_iff]
 simp
theorem right_long {l : List T} (h : 8 < l.length) : rightB l = false := by
 unfold rightB
 rw [decide_eq_false (by omega)]
 rfl
theorem right_short {l : List T} (h : l.length ≤ 8) : rightB l = okAll none l := by
 unfold rightB
 rw [decide_eq_true h]
 rfl
def prevAt (l : List T) (k : Nat) : Option T := if k = 0 then none else l[k - 1]?
theorem okAll_at (l : List T) (k : Nat) (h : k < l.length) : okAll (prevAt l k) (l.drop k) = (ok (prevAt l k) l[k] && okAll (prevAt l (k + 1)) (l.drop (k + 1))) := by
 rw [List.drop_eq_getElem_cons h,okAll]
 congr 2
 unfold prevAt
 rw [if_neg (by omega),Nat.add_sub_cancel,List.getElem?_eq_getElem h]
theorem prev_at {l : List T} {j : Nat} {q : T} (h : j < l.length) (hq : l[j] = q) : prevAt l (j + 1) = some q := by
 unfold prevAt
 rw [if_neg (by omega),Nat.add_sub_cancel,List.getElem?_eq_getElem h,hq]
def ix (s : ByteArray) : List T → Nat
 | [] => 0
 | r :: l => if r.name = s then 0 else ix s l + 1
theorem ix_le (s : ByteArray) : ∀ l,ix s l ≤ l.length
 | [] => Nat.le_refl _
 | a :: l => by
  have := ix_le s l
  unfold ix
  split <;> simp
  exact this
theorem ix_none {s : ByteArray} : ∀ {l : List T},(∀ r ∈ l,r.name ≠ s) → ix s l = l.length
 | [],_ => rfl
 | r :: l,h => by
  unfold ix
  rw [if_neg (h r (by simp)),ix_none (fun x hx => h x (by simp [hx]))]
  rfl
theorem ix_at {s : ByteArray} : ∀ {l : List T} {k : Nat} (hk : k < l.length),(∀ r ∈ l.take k,r.name ≠ s) → l[k].name = s → ix s l = k
 | [],_,hk,_,_ => absurd hk (Nat.not_lt_zero _)
 | r :: l,0,_,_,h => by
  unfold ix
  exact if_pos h
 | r :: l,k + 1,hk,hn,h => by
  have e := ix_at (l := l) (s := s) (k := k) (by simpa using hk) (fun x hx => hn x (by simp [hx])) (by simpa using h)
  unfold ix
  rw [if_neg (hn r (by simp)),e]
theorem ix_name {s : ByteArray} : ∀ {l : List T} (h : ix s l < l.length),(l[ix s l]).name = s
 | [],h => absurd h (Nat.not_lt_zero _)
 | r :: l,h => by
  by_cases e : r.name = s
  ·
   have h0 : ix s (r :: l) = 0 := if_pos e
   simp only [h0,List.getElem_cons_zero]
   exact e
  ·
   have h0 : ix s (r :: l) = ix s l + 1 := if_neg e
   have h1 : ix s l < l.length := by rw [h0] at h; simpa using h
   simp only [h0,List.getElem_cons_succ]
   exact ix_name h1
theorem ix_mem {s : ByteArray} {l : List T} : ix s l < l.length ↔ ∃ r ∈ l,r.name = s := by
 constructor
 ·
  intro h
  exact ⟨_,List.getElem_mem h,ix_name h⟩
 ·
  rintro ⟨r,hr,rfl⟩
  by_cases h : ix r.name l < l.length
  · exact h
  ·
   exfalso
   have : ∀ (l : List T),r ∈ l → ix r.name l < l.length := by
    intro l
    induction l with
    | nil => intro h; cases h
    | cons a l ih =>
     intro h
     unfold ix
     split
     · simp
     ·
      rename_i e
      rcases List.mem_cons.1 h with rfl | h
      · exact absurd rfl e
      ·
       have := ih h
       simp
       exact this
   exact h (this l hr)
def own (l : List T) (s : ByteArray) : T := (l[ix s l]?).getD Sr.zero
theorem own_at {l : List T} {s : ByteArray} (h : ix s l < l.length) : own l s = l[ix s l] := by
 unfold own
 rw [List.getElem?_eq_getElem h]
 rfl
theorem own_get {l : List T} {s : ByteArray} (h : ix s l < l.length) : l[ix s l]? = some (own l s) := by
 rw [own_at h,List.getElem?_eq_getElem h]
theorem own_zero {l : List T} {s : ByteArray} (h : ¬ ix s l < l.length) : own l s = Sr.zero := by
 unfold own
 rw [List.getElem?_eq_none (by omega)]
 rfl
theorem own_name {l : List T} {s : ByteArray} (h : ix s l < l.length) : (own l s).name = s := by
 rw [own_at h]
 exact ix_name h
theorem own_mem {l : List T} {s : ByteArray} (h : ix s l < l.length) : own l s ∈ l := by
 rw [own_at h]
 exact List.getElem_mem h
theorem sorted_inj {l : List T} (hs : Sorted l) {a b : T} (ha : a ∈ l) (hb : b ∈ l) (h : a.name = b.name) : a = b := by
 induction l with
 | nil => cases ha
 | cons c l ih =>
  unfold Sorted at hs
  rw [List.pairwise_cons] at hs
  rcases List.mem_cons.1 ha with e1 | ha
  ·
   rcases List.mem_cons.1 hb with e2 | hb
   · rw [e1,e2]
   ·
    have := hs.1 b hb
    rw [← e1] at this
    exact absurd h (lt_ne this)
  ·
   rcases List.mem_cons.1 hb with e2 | hb
   ·
    have := hs.1 a ha
    rw [← e2] at this
    exact absurd h.symm (lt_ne this)
   · exact ih hs.2 ha hb
theorem own_of {l : List T} (hs : Sorted l) {r : T} (h : r ∈ l) : ix r.name l < l.length ∧ own l r.name = r := by
 have hi : ix r.name l < l.length := ix_mem.2 ⟨r,h,rfl⟩
 exact ⟨hi,sorted_inj hs (own_mem hi) h (own_name hi)⟩
def spot (s : ByteArray) : List T → Nat
 | [] => 0
 | a :: l => if lt a.name s = true then spot s l + 1 else 0
theorem spot_at (s : ByteArray) (l : List T) (k : Nat) (h : k < l.length) : spot s (l.drop k) = if lt l[k].name s = true then spot s (l.drop (k + 1)) + 1 else 0 := by
 rw [List.drop_eq_getElem_cons h]
 rfl
def openL (l : List T) (r : T) : List T := l.take (spot r.name l) ++ r :: l.drop (spot r.name l)
theorem openL_cons {a : T} {l : List T} {r : T} (h : lt a.name r.name = true) : openL (a :: l) r = a :: openL l r := by
 have e : spot r.name (a :: l) = spot r.name l + 1 := if_pos h
 unfold openL
 rw [e]
 rfl
theorem openL_head {a : T} {l : List T} {r : T} (h : lt a.name r.name = false) : openL (a :: l) r = r :: a :: l := by
 have e : spot r.name (a :: l) = 0 := if_neg (by rw [h]; simp)
 unfold openL
 rw [e]
 rfl
theorem openL_perm (r : T) : ∀ l,(openL l r).Perm (r :: l)
 | [] => List.Perm.refl _
 | a :: l => by
  cases h : lt a.name r.name
  · rw [openL_head h]
  ·
   rw [openL_cons h]
   exact ((openL_perm r l).cons a).trans (List.Perm.swap r a l)
theorem openL_len (r : T) (l : List T) : (openL l r).length = l.length + 1 := by
 have := (openL_perm r l).length_eq
 simpa using this
theorem openL_mem {r : T} {l : List T} {a : T} : a ∈ openL l r ↔ a = r ∨ a ∈ l := by
 rw [(openL_perm r l).mem_iff,List.mem_cons]
theorem openL_sorted (r : T) : ∀ l,Sorted l → (∀ a ∈ l,a.name ≠ r.name) → Sorted (openL l r)
 | [],_,_ => List.pairwise_singleton _ _
 | a :: l,h,k => by
  unfold Sorted at h
  rw [List.pairwise_cons] at h
  cases hl : lt a.name r.name
  ·
   have hra : lt r.name a.name = true := by
    rcases lt_tri a.name r.name with e | e | e
    · rw [hl] at e; cases e
    · exact absurd e (k a (by simp))
    · exact e
   rw [openL_head hl]
   unfold Sorted
   rw [List.pairwise_cons,List.pairwise_cons]
   refine ⟨fun b hb => ?_,h⟩
   rcases List.mem_cons.1 hb with rfl | hb
   · exact hra
   · exact lt_trans hra (h.1 b hb)
  ·
   rw [openL_cons hl]
   unfold Sorted
   rw [List.pairwise_cons]
   refine ⟨fun b hb => ?_,openL_sorted r l h.2 fun b hb => k b (by simp [hb])⟩
   rcases openL_mem.1 hb with rfl | hb
   · exact hl
   · exact h.1 b hb
def openE (l : List T) (s : ByteArray) (n : Int) : Int := if rightB l = false then 1 else if Rn.name (txt s) = false then 8 else if lim n = false then 1 else if ix s l < l.length then 12 else if 8 ≤ l.length then 14 else 0
def openR (l : List T) (s : ByteArray) (n : Int) : List T := if openE l s n = 0 then openL l ⟨s,1,n,false⟩ else []
theorem open_arg {l : List T} {s : ByteArray} {n : Int} (h : rightB l = false) : openE l s n = 1 ∧ openR l s n = [] := by
 have e : openE l s n = 1 := if_pos h
 exact ⟨e,by unfold openR; rw [e]; rfl⟩
theorem open_name {l : List T} {s : ByteArray} {n : Int} (h : rightB l = true) (k : Rn.name (txt s) = false) : openE l s n = 8 ∧ openR l s n = [] := by
 have e : openE l s n = 8 := by
  unfold openE
  rw [if_neg (by rw [h]; simp),if_pos k]
 exact ⟨e,by unfold openR; rw [e]; rfl⟩
theorem open_lim {l : List T} {s : ByteArray} {n : Int} (h : rightB l = true) (k : Rn.name (txt s) = true) (m : lim n = false) : openE l s n = 1 ∧ openR l s n = [] := by
 have e : openE l s n = 1 := by
  unfold openE
  rw [if_neg (by rw [h]; simp),if_neg (by rw [k]; simp),if_pos m]
 exact ⟨e,by unfold openR; rw [e]; rfl⟩
theorem open_taken {l : List T} {s : ByteArray} {n : Int} (h : rightB l = true) (k : Rn.name (txt s) = true) (m : lim n = true) (i : ix s l < l.length) : openE l s n = 12 ∧ openR l s n = [] := by
 have e : openE l s n = 12 := by
  unfold openE
  rw [if_neg (by rw [h]; simp),if_neg (by rw [k]; simp),if_neg (by rw [m]; simp),if_pos i]
 exact ⟨e,by unfold openR; rw [e]; rfl⟩
theorem open_full {l : List T} {s : ByteArray} {n : Int} (h : rightB l = true) (k : Rn.name (txt s) = true) (m : lim n = true) (i : ¬ ix s l < l.length) (j : 8 ≤ l.length) : openE l s n = 14 ∧ openR l s n = [] := by
 have e : openE l s n = 14 := by
  unfold openE
  rw [if_neg (by rw [h]; simp),if_neg (by rw [k]; simp),if_neg (by rw [m]; simp),if_neg i,if_pos j]
 exact ⟨e,by unfold openR; rw [e]; rfl⟩
theorem open_ok {l : List T} {s : ByteArray} {n : Int} (h : rightB l = true) (k : Rn.name (txt s) = true) (m : lim n = true) (i : ¬ ix s l < l.length) (j : l.length < 8) : openE l s n = 0 ∧ openR l s n = openL l ⟨s,1,n,false⟩ := by
 have e : openE l s n = 0 := by
  unfold openE
  rw [if_neg (by rw [h]; simp),if_neg (by rw [k]; simp),if_neg (by rw [m]; simp),if_neg i,if_neg (by omega)]
 exact ⟨e,by unfold openR; rw [e]; rfl⟩
theorem open_right {l : List T} {s : ByteArray} {n : Int} (h : rightB l = true) (k : Rn.name (txt s) = true) (m : lim n = true) (i : ¬ ix s l < l.length) (j : l.length < 8) : rightB (openL l ⟨s,1,n,false⟩) = true := by
 obtain ⟨h1,h2,h3⟩ := (right_iff l).1 h
 refine (right_iff _).2 ⟨by rw [openL_len]; omega,fun r hr => ?_,openL_sorted _ l h3 fun a ha e => i (ix_mem.2 ⟨a,ha,e⟩)⟩
 rcases openL_mem.1 hr with rfl | hr
 ·
  have := lim_iff.1 m
  exact sound_iff.2 ⟨k,m,by show (1 : Int) ≤ 1; omega,by show (1 : Int) ≤ n + 1; omega⟩
 · exact h2 r hr
theorem open_own {l : List T} {r : T} (hl : Sorted l) (i : ¬ ix r.name l < l.length) (s : ByteArray) : (ix s (openL l r) < (openL l r).length ↔ s = r.name ∨ ix s l < l.length) ∧ own (openL l r) s = if s = r.name then r else own l s := by
 have hs : Sorted (openL l r) := openL_sorted _ l hl fun a ha e => i (ix_mem.2 ⟨a,ha,e⟩)
 have h1 : ix s (openL l r) < (openL l r).length ↔ s = r.name ∨ ix s l < l.length := by
  rw [ix_mem,ix_mem]
  constructor
  ·
   rintro ⟨a,ha,e⟩
   rcases openL_mem.1 ha with rfl | ha
   · exact .inl e.symm
   · exact .inr ⟨a,ha,e⟩
  ·
   rintro (e | ⟨a,ha,e⟩)
   · exact ⟨r,openL_mem.2 (.inl rfl),e.symm⟩
   · exact ⟨a,openL_mem.2 (.inr ha),e⟩
 refine ⟨h1,?_⟩
 by_cases e : s = r.name
 ·
  rw [if_pos e,e]
  exact (own_of hs (openL_mem.2 (.inl rfl))).2
 ·
  rw [if_neg e]
  by_cases h : ix s l < l.length
  ·
   have hm := own_of hs (openL_mem.2 (.inr (own_mem h)) : own l s ∈ openL l r)
   rw [own_name h] at hm
   exact hm.2
  · rw [own_zero h,own_zero (fun k => by rcases h1.1 k with k | k; exact e k; exact h k)]
def shutT (r : T) : T := ⟨r.name,r.next,r.limit,true⟩
def nextT (r : T) : T := ⟨r.name,r.next + 1,r.limit,r.shut⟩
def unE (l : List T) (s : ByteArray) : Int := if rightB l = false then 1 else if l.length ≤ ix s l then 11 else if (own l s).shut = true then 13 else 0
def shutR (l : List T) (s : ByteArray) : List T := if unE l s = 0 then l.set (ix s l) (shutT (own l s)) else []
def takeE (l : List T) (s : ByteArray) : Int := if unE l s ≠ 0 then unE l s else if (own l s).limit < (own l s).next then 14 else 0
def takeN (l : List T) (s : ByteArray) : Int := if takeE l s = 0 then (own l s).next else 0
def takeR (l : List T) (s : ByteArray) : List T := if takeE l s = 0 then l.set (ix s l) (nextT (own l s)) else []
theorem un_arg {l : List T} {s : ByteArray} (h : rightB l = false) : unE l s = 1 := if_pos h
theorem un_none {l : List T} {s : ByteArray} (h : rightB l = true) (k : ¬ ix s l < l.length) : unE l s = 11 := by
 unfold unE
 rw [if_neg (by rw [h]; simp),if_pos (by omega)]
theorem un_shut {l : List T} {s : ByteArray} (h : rightB l = true) (k : ix s l < l.length) (m : (own l s).shut = true) : unE l s = 13 := by
 unfold unE
 rw [if_neg (by rw [h]; simp),if_neg (by omega),if_pos m]
theorem un_ok {l : List T} {s : ByteArray} (h : rightB l = true) (k : ix s l < l.length) (m : (own l s).shut = false) : unE l s = 0 := by
 unfold unE
 rw [if_neg (by rw [h]; simp),if_neg (by omega),if_neg (by rw [m]; simp)]
theorem un_0 {l : List T} {s : ByteArray} (h : unE l s = 0) : rightB l = true ∧ ix s l < l.length ∧ (own l s).shut = false := by
 unfold unE at h
 cases h1 : rightB l
 · rw [if_pos h1] at h; omega
 ·
  rw [if_neg (by rw [h1]; simp)] at h
  by_cases h2 : l.length ≤ ix s l
  · rw [if_pos h2] at h; omega
  ·
   rw [if_neg h2] at h
   cases h3 : (own l s).shut
   · exact ⟨rfl,by omega,rfl⟩
   · rw [if_pos h3] at h; omega
theorem shut_no {l : List T} {s : ByteArray} (h : unE l s ≠ 0) : shutR l s = [] := if_neg h
theorem shut_yes {l : List T} {s : ByteArray} (h : unE l s = 0) : shutR l s = l.set (ix s l) (shutT (own l s)) := if_pos h
theorem take_un {l : List T} {s : ByteArray} (h : unE l s ≠ 0) : takeE l s = unE l s ∧ takeN l s = 0 ∧ takeR l s = [] := by
 have e : takeE l s = unE l s := if_pos h
 exact ⟨e,by unfold takeN; rw [e,if_neg h],by unfold takeR; rw [e,if_neg h]⟩
theorem take_full {l : List T} {s : ByteArray} (h : unE l s = 0) (k : (own l s).limit < (own l s).next) : takeE l s = 14 ∧ takeN l s = 0 ∧ takeR l s = [] := by
 have e : takeE l s = 14 := by
  unfold takeE
  rw [if_neg (by rw [h]; simp),if_pos k]
 exact ⟨e,by unfold takeN; rw [e]; rfl,by unfold takeR; rw [e]; rfl⟩
theorem take_ok {l : List T} {s : ByteArray} (h : unE l s = 0) (k : ¬ (own l s).limit < (own l s).next) : takeE l s = 0 ∧ takeN l s = (own l s).next ∧ takeR l s = l.set (ix s l) (nextT (own l s)) := by
 have e : takeE l s = 0 := by
  unfold takeE
  rw [if_neg (by rw [h]; simp),if_neg k]
 exact ⟨e,by unfold takeN; rw [e]; rfl,by unfold takeR; rw [e]; rfl⟩
theorem set_mem {l : List T} {s : ByteArray} {r : T} (h : ix s l < l.length) (a : T) (ha : a ∈ l.set (ix s l) r) : a = r ∨ a ∈ l := by
 obtain ⟨j,hj,e⟩ := List.getElem_of_mem ha
 rw [List.getElem_set] at e
 split at e
 · exact .inl e.symm
 · exact .inr (e ▸ List.getElem_mem _)
theorem set_names {l : List T} {s : ByteArray} {r : T} (h : ix s l < l.length) (hr : r.name = s) : (l.set (ix s l) r).map T.name = l.map T.name := by
 rw [List.map_set,hr]
 apply List.ext_getElem (by simp)
 intro j h1 h2
 rw [List.getElem_set]
 split
 ·
  rename_i e
  subst e
  rw [List.getElem_map,ix_name h]
 · rfl
theorem sorted_names {l m : List T} (h : l.map T.name = m.map T.name) (hs : Sorted l) : Sorted m := by
 have h1 : (l.map T.name).Pairwise (fun a b => lt a b = true) := List.pairwise_map.2 hs
 rw [h] at h1
 exact List.pairwise_map.1 h1
theorem ix_names (s : ByteArray) : ∀ {l m : List T},l.map T.name = m.map T.name → ix s l = ix s m
 | [],[],_ => rfl
 | [],_ :: _,h => by simp at h
 | _ :: _,[],h => by simp at h
 | a :: l,b :: m,h => by
  simp only [List.map_cons,List.cons.injEq] at h
  unfold ix
  rw [h.1,ix_names s h.2]
theorem set_right {l : List T} {s : ByteArray} {r : T} (hl : rightB l = true) (h : ix s l < l.length) (hr : r.name = s) (k : sound r = true) : rightB (l.set (ix s l) r) = true := by
 obtain ⟨h1,h2,h3⟩ := (right_iff l).1 hl
 refine (right_iff _).2 ⟨by rw [List.length_set]; exact h1,fun a ha => ?_,sorted_names (set_names h hr).symm h3⟩
 rcases set_mem h a ha with rfl | ha
 · exact k
 · exact h2 a ha
theorem set_own {l : List T} {s : ByteArray} {r : T} (h : ix s l < l.length) (hr : r.name = s) (t : ByteArray) : (ix t (l.set (ix s l) r) = ix t l) ∧ own (l.set (ix s l) r) t = if t = s then r else own l t := by
 have e := ix_names t (set_names h hr)
 refine ⟨e,?_⟩
 unfold own
 rw [e]
 by_cases ht : t = s
 ·
  rw [if_pos ht,ht,List.getElem?_set_self h]
  rfl
 ·
  rw [if_neg ht]
  by_cases hi : ix t l < l.length
  ·
   have hne : ix s l ≠ ix t l := by
    intro k
    have h1 := ix_name h
    have h2 := ix_name hi
    apply ht
    rw [← h1,← h2]
    simp only [k]
   rw [List.getElem?_set_ne hne]
  · rw [List.getElem?_eq_none (by rw [List.length_set]; omega),List.getElem?_eq_none (by omega)]
theorem shut_right {l : List T} {s : ByteArray} (h : unE l s = 0) : rightB (shutR l s) = true := by
 obtain ⟨h1,h2,h3⟩ := un_0 h
 rw [shut_yes h]
 have k := sound_iff.1 (((right_iff l).1 h1).2.1 _ (own_mem h2))
 exact set_right h1 h2 (own_name h2) (sound_iff.2 k)
theorem take_right {l : List T} {s : ByteArray} (h : unE l s = 0) (k : ¬ (own l s).limit < (own l s).next) : rightB (takeR l s) = true := by
 obtain ⟨h1,h2,h3⟩ := un_0 h
 rw [(take_ok h k).2.2]
 obtain ⟨k1,k2,k3,k4⟩ := sound_iff.1 (((right_iff l).1 h1).2.1 _ (own_mem h2))
 exact set_right h1 h2 (own_name h2) (sound_iff.2 ⟨k1,k2,by show 1 ≤ (own l s).next + 1; omega,by show (own l s).next + 1 ≤ (own l s).limit + 1; omega⟩)
end Go.Proofs.YtjpfpojbalepeaaGreat.Se
namespace Go.Proofs.YtjpfpojbalepeaaGreat.Ln
open Go.RowKit
open Mem
structure T where
 text : ByteArray
 category : ByteArray
 count : Int
 price : Int
def val (r : T) : Value := .agg #[.string r.text,.string r.category,.int .i64 r.count,.int .i64 r.price]
def Short (r : T) : Prop := r.text.size ≤ 140737488355328 ∧ r.category.size ≤ 140737488355328 ∧ Fit r.count ∧ Fit r.price
def box (w : World) (r : T) : World := w.alloc (.cells #[.string r.text,.string r.category,.int .i64 r.count,.int .i64 r.price] 71)
def C (u : World) (b : Nat) (r : T) : Prop :=
 u.cell? ⟨b,0,none⟩ = some (.string r.text) ∧ u.cell? ⟨b,1,none⟩ = some (.string r.category) ∧ u.cell? ⟨b,2,none⟩ = some (.int .i64 r.count) ∧ u.cell? ⟨b,3,none⟩ = some (.int .i64 r.price)
theorem C.below {u v : World} {b : Nat} {r : T} (h : C u b r) (k : Below u.heap.size u v) : C v b r := by
 obtain ⟨h0,h1,h2,h3⟩ := h
 have hl := cell_lt h0
 unfold C
 rw [(bcell k).1 _ _ hl,(bcell k).1 _ _ hl,(bcell k).1 _ _ hl,(bcell k).1 _ _ hl]
 exact ⟨h0,h1,h2,h3⟩
theorem c_box (w : World) (r : T) : C (box w r) w.heap.size r := by
 unfold box C
 simp [go_sem]
theorem below_own (w : World) (r : T) : Below w.heap.size w (box w r) := (Below.refl _ _).alloc (Nat.le_refl _) _
theorem boxed1 (w : World) (a : T) : ∃ W,w.alloc (.cells #[.string a.text,.string a.category,.int .i64 a.count,.int .i64 a.price] 71) = W ∧ Below w.heap.size w W ∧ C W w.heap.size a :=
 ⟨_,rfl,below_own w a,c_box w a⟩
end Go.Proofs.YtjpfpojbalepeaaGreat.Ln
namespace Go.Proofs.YtjpfpojbalepeaaGreat.Ln
open Go.RowKit
open Mem
structure At (u : World) (b o : Nat) (r : T) : Prop where
 c0 : u.cell? ⟨b,o,none⟩ = some (.string r.text)
 c1 : u.cell? ⟨b,o + 1,none⟩ = some (.string r.category)
 c2 : u.cell? ⟨b,o + 2,none⟩ = some (.int .i64 r.count)
 c3 : u.cell? ⟨b,o + 3,none⟩ = some (.int .i64 r.price)
theorem At.below {u v : World} {b o : Nat} {r : T} (h : At u b o r) (k : Below u.heap.size u v) : At v b o r := by
 have hl := cell_lt h.c0
 exact ⟨by rw [(bcell k).1 _ _ hl]; exact h.c0,by rw [(bcell k).1 _ _ hl]; exact h.c1,by rw [(bcell k).1 _ _ hl]; exact h.c2,by rw [(bcell k).1 _ _ hl]; exact h.c3⟩
def Seg (w : World) (ao : Option Addr) (rs : List T) : Prop := rs = [] ∨ ∃ b off,ao = some ⟨b,off,none⟩ ∧ ∀ (k : Nat) (hk : k < rs.length),At w b (off + k * 4) rs[k]
theorem Seg.below {w v : World} {ao : Option Addr} {rs : List T} (h : Seg w ao rs) (k : Below w.heap.size w v) : Seg v ao rs := by
 rcases h with h | ⟨b,off,e,h⟩
 · exact .inl h
 · exact .inr ⟨b,off,e,fun i hi => (h i hi).below k⟩
structure Ls (w : World) (ao : Option Addr) (n cap : Nat) (rs : List T) : Prop where
 len : n = rs.length
 fits : n ≤ cap
 reach : cap ≤ 9223372036854775807
 nil : ao = none → cap = 0
 seg : Seg w ao rs
 short : ∀ r ∈ rs,Short r
theorem Ls.below {w v : World} {ao : Option Addr} {n cap : Nat} {rs : List T} (h : Ls w ao n cap rs) (k : Below w.heap.size w v) : Ls v ao n cap rs :=
 ⟨h.len,h.fits,h.reach,h.nil,h.seg.below k,h.short⟩
theorem Ls.at {w : World} {ao : Option Addr} {n cap : Nat} {rs : List T} (h : Ls w ao n cap rs) (hn : 0 < n) : ∃ b off,ao = some ⟨b,off,none⟩ := by
 rcases h.seg with e | ⟨b,off,e,_⟩
 ·
  have := h.len
  rw [e] at this
  simp at this
  omega
 · exact ⟨b,off,e⟩
theorem Ls.row {w : World} {b off n cap : Nat} {rs : List T} (h : Ls w (some ⟨b,off,none⟩) n cap rs) (k : Nat) (hk : k < rs.length) : At w b (off + k * 4) rs[k] := by
 rcases h.seg with e | ⟨b',off',e,hs⟩
 ·
  subst e
  simp at hk
 ·
  cases e
  exact hs k hk
theorem ls_nil (w : World) : Ls w none 0 0 [] := ⟨rfl,Nat.le_refl _,by omega,fun _ => rfl,.inl rfl,by simp⟩
theorem und : Tryz.prog.underlying 26 = some (.slice (Tryz.prog.elem 26)) := by kernel_rfl
theorem size (u : World) : (sizeOf (Tryz.prog.elem 26)).run Tryz.prog u = .ok 4 u := by
 have h : (Tryz.prog.info? (Tryz.prog.elem 26)).map (·.size) = some 4 := by kernel_rfl
 obtain ⟨i,hi,hs⟩ := Option.map_eq_some_iff.1 h
 simp [sizeOf,typeInfo,hi,hs]
theorem Ls.to {w : World} {ao : Option Addr} {n cap : Nat} {rs : List T} (h : Ls w ao n cap rs) (k : Nat) (hk : k ≤ n) :
  (∀ u,(Instr.slice 26 (.slice ao n cap) none (some (.int .i64 (k : Int))) none).run Tryz.prog u = .ok (.slice ao k cap) u) ∧ Ls w ao k cap (rs.take k) := by
 have hl := h.len
 have hf := h.fits
 refine ⟨fun u => ?_,⟨by rw [List.length_take]; omega,by omega,h.reach,h.nil,?_,fun r hr => h.short r (List.mem_of_mem_take hr)⟩⟩
 ·
  rw [run_slice_h u 26 ao n cap und .i64 k (by omega) (by omega),size]
  have e : Option.map (fun x : Addr => x.add 0) ao = ao := by cases ao <;> simp [Addr.add]
  simp [Result.andThen,sliced,e]
 ·
  rcases h.seg with e | ⟨b,off,e,hc⟩
  · exact .inl (by rw [e]; simp)
  ·
   refine .inr ⟨b,off,e,fun j hj => ?_⟩
   rw [List.length_take] at hj
   rw [List.getElem_take]
   exact hc j (by omega)
end Go.Proofs.YtjpfpojbalepeaaGreat.Ln
namespace Go.Proofs.YtjpfpojbalepeaaGreat.Pt
open Go.RowKit
open Mem
structure T where
 cat : ByteArray
 bp : Int
 net : Int
 tax : Int
def Short (r : T) : Prop := r.cat.size ≤ 140737488355328 ∧ Fit r.bp ∧ Fit r.net ∧ Fit r.tax
def box (w : World) (r : T) : World := w.alloc (.cells #[.string r.cat,.int .i64 r.bp,.int .i64 r.net,.int .i64 r.tax] 105)
def C (u : World) (b : Nat) (r : T) : Prop :=
 u.cell? ⟨b,0,none⟩ = some (.string r.cat) ∧ u.cell? ⟨b,1,none⟩ = some (.int .i64 r.bp) ∧ u.cell? ⟨b,2,none⟩ = some (.int .i64 r.net) ∧ u.cell? ⟨b,3,none⟩ = some (.int .i64 r.tax)
theorem C.below {u v : World} {b : Nat} {r : T} (h : C u b r) (k : Below u.heap.size u v) : C v b r := by
 obtain ⟨h0,h1,h2,h3⟩ := h
 have hl := cell_lt h0
 unfold C
 rw [(bcell k).1 _ _ hl,(bcell k).1 _ _ hl,(bcell k).1 _ _ hl,(bcell k).1 _ _ hl]
 exact ⟨h0,h1,h2,h3⟩
theorem c_box (w : World) (r : T) : C (box w r) w.heap.size r := by
 unfold box C
 simp [go_sem]
theorem below_own (w : World) (r : T) : Below w.heap.size w (box w r) := (Below.refl _ _).alloc (Nat.le_refl _) _
theorem boxed1 (w : World) (a : T) : ∃ W,w.alloc (.cells #[.string a.cat,.int .i64 a.bp,.int .i64 a.net,.int .i64 a.tax] 105) = W ∧ Below w.heap.size w W ∧ C W w.heap.size a :=
 ⟨_,rfl,below_own w a,c_box w a⟩
end Go.Proofs.YtjpfpojbalepeaaGreat.Pt
namespace Go.Proofs.YtjpfpojbalepeaaGreat.Pt
open Go.RowKit
open Mem
structure At (u : World) (b o : Nat) (r : T) : Prop where
 c0 : u.cell? ⟨b,o,none⟩ = some (.string r.cat)
 c1 : u.cell? ⟨b,o + 1,none⟩ = some (.int .i64 r.bp)
 c2 : u.cell? ⟨b,o + 2,none⟩ = some (.int .i64 r.net)
 c3 : u.cell? ⟨b,o + 3,none⟩ = some (.int .i64 r.tax)
theorem At.below {u v : World} {b o : Nat} {r : T} (h : At u b o r) (k : Below u.heap.size u v) : At v b o r := by
 have hl := cell_lt h.c0
 exact ⟨by rw [(bcell k).1 _ _ hl]; exact h.c0,by rw [(bcell k).1 _ _ hl]; exact h.c1,by rw [(bcell k).1 _ _ hl]; exact h.c2,by rw [(bcell k).1 _ _ hl]; exact h.c3⟩
def Seg (w : World) (ao : Option Addr) (rs : List T) : Prop := rs = [] ∨ ∃ b off,ao = some ⟨b,off,none⟩ ∧ ∀ (k : Nat) (hk : k < rs.length),At w b (off + k * 4) rs[k]
theorem Seg.below {w v : World} {ao : Option Addr} {rs : List T} (h : Seg w ao rs) (k : Below w.heap.size w v) : Seg v ao rs := by
 rcases h with h | ⟨b,off,e,h⟩
 · exact .inl h
 · exact .inr ⟨b,off,e,fun i hi => (h i hi).below k⟩
structure Ls (w : World) (ao : Option Addr) (n cap : Nat) (rs : List T) : Prop where
 len : n = rs.length
 fits : n ≤ cap
 reach : cap ≤ 9223372036854775807
 nil : ao = none → cap = 0
 seg : Seg w ao rs
 short : ∀ r ∈ rs,Short r
theorem Ls.below {w v : World} {ao : Option Addr} {n cap : Nat} {rs : List T} (h : Ls w ao n cap rs) (k : Below w.heap.size w v) : Ls v ao n cap rs :=
 ⟨h.len,h.fits,h.reach,h.nil,h.seg.below k,h.short⟩
theorem Ls.at {w : World} {ao : Option Addr} {n cap : Nat} {rs : List T} (h : Ls w ao n cap rs) (hn : 0 < n) : ∃ b off,ao = some ⟨b,off,none⟩ := by
 rcases h.seg with e | ⟨b,off,e,_⟩
 ·
  have := h.len
  rw [e] at this
  simp at this
  omega
 · exact ⟨b,off,e⟩
theorem Ls.row {w : World} {b off n cap : Nat} {rs : List T} (h : Ls w (some ⟨b,off,none⟩) n cap rs) (k : Nat) (hk : k < rs.length) : At w b (off + k * 4) rs[k] := by
 rcases h.seg with e | ⟨b',off',e,hs⟩
 ·
  subst e
  simp at hk
 ·
  cases e
  exact hs k hk
theorem ls_nil (w : World) : Ls w none 0 0 [] := ⟨rfl,Nat.le_refl _,by omega,fun _ => rfl,.inl rfl,by simp⟩
theorem und : Tryz.prog.underlying 62 = some (.slice (Tryz.prog.elem 62)) := by kernel_rfl
theorem size (u : World) : (sizeOf (Tryz.prog.elem 62)).run Tryz.prog u = .ok 4 u := by
 have h : (Tryz.prog.info? (Tryz.prog.elem 62)).map (·.size) = some 4 := by kernel_rfl
 obtain ⟨i,hi,hs⟩ := Option.map_eq_some_iff.1 h
 simp [sizeOf,typeInfo,hi,hs]
end Go.Proofs.YtjpfpojbalepeaaGreat.Pt
namespace Go.Proofs.YtjpfpojbalepeaaGreat.Iv
structure Tot where
 net : Int
 tax : Int
 gross : Int
 parts : List Pt.T
def Tot.zero : Tot := ⟨0,0,0,[]⟩
end Go.Proofs.YtjpfpojbalepeaaGreat.Iv
namespace Go.Proofs.YtjpfpojbalepeaaGreat.Mn
def Fit (x : Int) : Prop := -9223372036854775808 ≤ x ∧ x ≤ 9223372036854775807
instance (x : Int) : Decidable (Fit x) := inferInstanceAs (Decidable (_ ∧ _))
def amt (x : Int) : Int := if Fit x then x else 0
def err (x : Int) : Int := if Fit x then 0 else 7
theorem amt_fit {x : Int} (h : Fit x) : amt x = x := if_pos h
theorem err_fit {x : Int} (h : Fit x) : err x = 0 := if_pos h
theorem amt_not {x : Int} (h : ¬ Fit x) : amt x = 0 := if_neg h
theorem err_not {x : Int} (h : ¬ Fit x) : err x = 7 := if_neg h
theorem err_two (x : Int) : err x = 0 ∨ err x = 7 := by
 unfold err
 split
 · exact .inl rfl
 · exact .inr rfl
theorem tdiv_pp (m b : Int) (h0 : 0 ≤ m) : m.tdiv b = m / b := Int.tdiv_eq_ediv_of_nonneg h0
theorem tdiv_pn (m b : Int) (h0 : 0 ≤ m) : m.tdiv (-b) = -(m / b) := by rw [Int.tdiv_neg,tdiv_pp m b h0]
theorem le_div (m b x : Int) (hb : 0 < b) : x ≤ m / b ↔ x * b ≤ m := Int.le_ediv_iff_mul_le hb
theorem fits_pp (a b : Int) (_ha : 0 < a) (hb : 0 < b) : a ≤ (9223372036854775807 : Int).tdiv b ↔ a * b ≤ 9223372036854775807 := by
 rw [tdiv_pp _ _ (by omega),le_div _ _ _ hb]
theorem fits_pn (a b : Int) (ha : 0 < a) : -(9223372036854775808 : Int).tdiv a ≤ b ↔ -9223372036854775808 ≤ a * b := by
 have h := le_div 9223372036854775808 a (-b) ha
 rw [tdiv_pp _ _ (by omega)]
 rw [Int.neg_mul,Int.mul_comm b a] at h
 omega
theorem fits_np (a b : Int) (hb : 0 < b) : -(9223372036854775808 : Int).tdiv b ≤ a ↔ -9223372036854775808 ≤ a * b := by
 rw [fits_pn b a hb,Int.mul_comm]
theorem fits_nn (a b : Int) (hb : b < 0) : (9223372036854775807 : Int).tdiv b ≤ a ↔ a * b ≤ 9223372036854775807 := by
 have h := le_div 9223372036854775807 (-b) (-a) (by omega)
 have e : (9223372036854775807 : Int).tdiv b = -(9223372036854775807 / (-b)) := by
  have := tdiv_pn 9223372036854775807 (-b) (by omega)
  rwa [Int.neg_neg] at this
 rw [e]
 rw [Int.neg_mul_neg] at h
 omega
theorem tdiv_small (m b : Int) (h0 : 0 ≤ m) (hb : b ≠ 0) : -m ≤ m.tdiv b ∧ m.tdiv b ≤ m := by
 rcases Int.lt_or_gt_of_ne hb with h | h
 ·
  have e := tdiv_pn m (-b) h0
  rw [Int.neg_neg] at e
  have h1 : m / (-b) ≤ m := Int.ediv_le_self _ h0
  have h2 : 0 ≤ m / (-b) := Int.ediv_nonneg h0 (by omega)
  omega
 ·
  have e := tdiv_pp m b h0
  have h1 : m / b ≤ m := Int.ediv_le_self _ h0
  have h2 : 0 ≤ m / b := Int.ediv_nonneg h0 (by omega)
  omega
theorem tdiv_pos (m b : Int) (h0 : 0 ≤ m) (hb : 0 < b) : 0 ≤ m.tdiv b ∧ m.tdiv b ≤ m := by
 rw [tdiv_pp m b h0]
 exact ⟨Int.ediv_nonneg h0 (by omega),Int.ediv_le_self _ h0⟩
theorem mul_pos {a b : Int} (ha : 0 < a) (hb : 0 < b) : 0 < a * b := Int.mul_pos ha hb
theorem mul_pn {a b : Int} (ha : 0 < a) (hb : b < 0) : a * b < 0 := Int.mul_neg_of_pos_of_neg ha hb
theorem mul_np {a b : Int} (ha : a < 0) (hb : 0 < b) : a * b < 0 := Int.mul_neg_of_neg_of_pos ha hb
theorem mul_nn {a b : Int} (ha : a < 0) (hb : b < 0) : 0 < a * b := Int.mul_pos_of_neg_of_neg ha hb
end Go.Proofs.YtjpfpojbalepeaaGreat.Mn
namespace Go.Proofs.YtjpfpojbalepeaaGreat.Sh
def sh (u bp all : Nat) : Nat := (2 * (u * bp) + all) / (2 * all)
theorem sh_split (u bp all : Nat) (h : 0 < all) : sh u bp all = u / all * bp + (2 * (u % all) * bp + all) / (2 * all) := by
 have e : 2 * (u * bp) + all = 2 * all * (u / all * bp) + (2 * (u % all) * bp + all) := by
  have h1 : u = all * (u / all) + u % all := (Nat.div_add_mod u all).symm
  have h2 : u * bp = all * (u / all * bp) + u % all * bp := by
   have h3 : u * bp = (all * (u / all) + u % all) * bp := by rw [← h1]
   rw [h3,Nat.add_mul,Nat.mul_assoc]
  rw [h2,Nat.mul_assoc 2 all,Nat.mul_assoc 2 (u % all)]
  omega
 unfold sh
 rw [e,Nat.mul_add_div (by omega)]
theorem last_le (r bp all : Nat) (hr : r < all) : (2 * r * bp + all) / (2 * all) ≤ bp := by
 have h1 : 2 * r * bp + all < 2 * all * (bp + 1) := by
  have h2 : r * bp ≤ all * bp := Nat.mul_le_mul_right _ (by omega)
  rw [Nat.mul_assoc,Nat.mul_assoc 2 all,Nat.mul_add,Nat.mul_one]
  omega
 have := (Nat.div_lt_iff_lt_mul (k := 2 * all) (by omega) (x := 2 * r * bp + all) (y := bp + 1)).2 (by rw [Nat.mul_comm (bp + 1)]; exact h1)
 omega
theorem sh_none (u all : Nat) (h : 0 < all) : sh u 0 all = 0 := by
 unfold sh
 rw [Nat.mul_zero,Nat.mul_zero,Nat.zero_add]
 exact Nat.div_eq_of_lt (by omega)
def side (n : Int) (s : Nat) : Int := if n < 0 then -(s : Int) else (s : Int)
def val (n : Int) (bp all : Nat) : Int := if sh n.natAbs bp all ≤ 9223372036854775807 then side n (sh n.natAbs bp all) else 0
def why (n : Int) (bp all : Nat) : Int := if sh n.natAbs bp all ≤ 9223372036854775807 then 0 else 7
def Right (bp : Int) : Prop := 0 ≤ bp ∧ bp ≤ 100000
instance (x : Int) : Decidable (Right x) := inferInstanceAs (Decidable (_ ∧ _))
def taxV (n bp : Int) : Int := if Right bp then val n bp.toNat 10000 else 0
def taxE (n bp : Int) : Int := if Right bp then why n bp.toNat 10000 else 1
def inV (n bp : Int) : Int := if Right bp then val n bp.toNat (10000 + bp.toNat) else 0
def inE (n bp : Int) : Int := if Right bp then why n bp.toNat (10000 + bp.toNat) else 1
theorem side_neg (n : Int) (s : Nat) (h : n ≠ 0 ∨ s = 0) : side (-n) s = -side n s := by
 unfold side
 by_cases h1 : n < 0
 · rw [if_pos h1,if_neg (by omega)]; omega
 ·
  rw [if_neg h1]
  by_cases h2 : -n < 0
  · rw [if_pos h2]
  · rw [if_neg h2]; omega
theorem sh_zero (bp all : Nat) (h : 0 < all) : sh 0 bp all = 0 := by
 unfold sh
 rw [Nat.zero_mul,Nat.mul_zero,Nat.zero_add]
 exact Nat.div_eq_of_lt (by omega)
theorem val_neg (n : Int) (bp all : Nat) (h : 0 < all) : val (-n) bp all = -val n bp all := by
 unfold val
 rw [Int.natAbs_neg]
 split
 ·
  apply side_neg
  by_cases h0 : n = 0
  · subst h0; exact .inr (sh_zero bp all h)
  · exact .inl h0
 · rfl
theorem why_neg (n : Int) (bp all : Nat) : why (-n) bp all = why n bp all := by
 unfold why
 rw [Int.natAbs_neg]
theorem tax_neg (n bp : Int) : taxV (-n) bp = -taxV n bp ∧ taxE (-n) bp = taxE n bp := by
 unfold taxV taxE
 split
 · exact ⟨val_neg _ _ _ (by omega),why_neg _ _ _⟩
 · exact ⟨rfl,rfl⟩
end Go.Proofs.YtjpfpojbalepeaaGreat.Sh
namespace Go.Proofs.YtjpfpojbalepeaaGreat.Iv
open Vt (Rt)
def lt (a b : ByteArray) : Bool := Op.bytesLess a.toList b.toList
theorem lt_trans {a b c : ByteArray} (h : lt a b = true) (k : lt b c = true) : lt a c = true := Vt.less_trans _ _ _ h k
theorem lt_irrefl (a : ByteArray) : lt a a = false := Vt.less_irrefl _
theorem lt_tri (a b : ByteArray) : lt a b = true ∨ a = b ∨ lt b a = true := by
 rcases Vt.less_tri a.toList b.toList with h | h | h
 · exact .inl h
 · exact .inr (.inl (Vt.cat_ext h))
 · exact .inr (.inr h)
theorem lt_ne {a b : ByteArray} (h : lt a b = true) : a ≠ b := by
 rintro rfl
 rw [lt_irrefl] at h
 cases h
theorem lt_asymm {a b : ByteArray} (h : lt a b = true) : lt b a = false := by
 rw [Bool.eq_false_iff]
 intro k
 have := lt_trans h k
 rw [lt_irrefl] at this
 cases this
def Sorted (l : List Pt.T) : Prop := l.Pairwise fun a b => lt a.cat b.cat = true
def spot (c : ByteArray) : List Pt.T → Nat
 | [] => 0
 | a :: l => if lt a.cat c = true then spot c l + 1 else 0
theorem spot_le (c : ByteArray) : ∀ l,spot c l ≤ l.length
 | [] => Nat.le_refl _
 | a :: l => by
  have := spot_le c l
  unfold spot
  split
  · simp; omega
  · simp
theorem spot_at (c : ByteArray) (l : List Pt.T) (k : Nat) (h : k < l.length) : spot c (l.drop k) = if lt l[k].cat c = true then spot c (l.drop (k + 1)) + 1 else 0 := by
 rw [List.drop_eq_getElem_cons h]
 rfl
def has (c : ByteArray) : List Pt.T → Bool
 | [] => false
 | a :: l => if lt a.cat c = true then has c l else decide (a.cat = c)
theorem has_spot (c : ByteArray) : ∀ l : List Pt.T,has c l = match l[spot c l]? with | none => false | some a => decide (a.cat = c)
 | [] => rfl
 | a :: l => by
  unfold has spot
  by_cases h : lt a.cat c = true
  · rw [if_pos h,if_pos h,has_spot c l,List.getElem?_cons_succ]
  ·
   rw [if_neg h,if_neg h]
   rfl
def part (c : ByteArray) (bp : Int) : List Pt.T → Pt.T
 | [] => ⟨c,bp,0,0⟩
 | a :: l => if lt a.cat c = true then part c bp l else if a.cat = c then a else ⟨c,bp,0,0⟩
def ins (c : ByteArray) (bp : Int) : List Pt.T → List Pt.T
 | [] => [⟨c,bp,0,0⟩]
 | a :: l => if lt a.cat c = true then a :: ins c bp l else if a.cat = c then a :: l else ⟨c,bp,0,0⟩ :: a :: l
theorem ins_has {c : ByteArray} {bp : Int} : ∀ {l : List Pt.T},has c l = true → ins c bp l = l
 | [],h => by cases h
 | a :: l,h => by
  unfold has at h
  unfold ins
  by_cases k : lt a.cat c = true
  ·
   rw [if_pos k] at h ⊢
   rw [ins_has h]
  ·
   rw [if_neg k] at h ⊢
   rw [if_pos (of_decide_eq_true h)]
theorem ins_new {c : ByteArray} {bp : Int} : ∀ {l : List Pt.T},has c l = false → ins c bp l = l.take (spot c l) ++ ⟨c,bp,0,0⟩ :: l.drop (spot c l)
 | [],_ => rfl
 | a :: l,h => by
  unfold has at h
  unfold ins spot
  by_cases k : lt a.cat c = true
  ·
   rw [if_pos k] at h ⊢
   rw [if_pos k,ins_new h]
   rfl
  ·
   rw [if_neg k] at h ⊢
   rw [if_neg k,if_neg (of_decide_eq_false h)]
   rfl
theorem ins_at {c : ByteArray} {bp : Int} : ∀ (l : List Pt.T),(ins c bp l)[spot c l]? = some (part c bp l)
 | [] => rfl
 | a :: l => by
  unfold ins spot part
  by_cases k : lt a.cat c = true
  · rw [if_pos k,if_pos k,if_pos k,List.getElem?_cons_succ,ins_at l]
  ·
   rw [if_neg k,if_neg k,if_neg k]
   by_cases e : a.cat = c
   ·
    rw [if_pos e,if_pos e]
    rfl
   ·
    rw [if_neg e,if_neg e]
    rfl
theorem ins_len {c : ByteArray} {bp : Int} : ∀ (l : List Pt.T),(ins c bp l).length ≤ l.length + 1
 | [] => Nat.le_refl _
 | a :: l => by
  have := ins_len (c := c) (bp := bp) l
  unfold ins
  split
  · simp; omega
  · split <;> simp
theorem ins_lt {c : ByteArray} {bp : Int} (l : List Pt.T) : spot c l < (ins c bp l).length := by
 have := ins_at (c := c) (bp := bp) l
 obtain ⟨h,_⟩ := List.getElem?_eq_some_iff.1 this
 exact h
def more (p : Pt.T) (n : Int) : Pt.T := ⟨p.cat,p.bp,p.net + n,p.tax⟩
def enter (c : ByteArray) (bp n : Int) (l : List Pt.T) : List Pt.T := (ins c bp l).set (spot c l) (more (part c bp l) n)
def enterE (c : ByteArray) (bp n : Int) (l : List Pt.T) : Int := Mn.err ((part c bp l).net + n)
theorem enter_len {c : ByteArray} {bp n : Int} (l : List Pt.T) : (enter c bp n l).length ≤ l.length + 1 := by
 unfold enter
 rw [List.length_set]
 exact ins_len l
def lineE (rs : List Rt) (y m d : Int) (x : Ln.T) : Int :=
 if 64 < x.text.size then 2 else if Rn.name (txt x.category) = false then 8 else if x.count < 1 ∨ 1048576 < x.count then 1 else if (Vt.find rs x.category y m d).2 = false then 10 else Mn.err (x.count * x.price)
def goE (rs : List Rt) (y m d : Int) : List Ln.T → List Pt.T → Int
 | [],_ => 0
 | x :: l,ps => if lineE rs y m d x ≠ 0 then lineE rs y m d x else if enterE x.category (Vt.find rs x.category y m d).1 (x.count * x.price) ps ≠ 0 then 7 else goE rs y m d l (enter x.category (Vt.find rs x.category y m d).1 (x.count * x.price) ps)
def goL (rs : List Rt) (y m d : Int) : List Ln.T → List Pt.T → List Pt.T
 | [],ps => ps
 | x :: l,ps => goL rs y m d l (enter x.category (Vt.find rs x.category y m d).1 (x.count * x.price) ps)
theorem goE_at (rs : List Rt) (y m d : Int) (ls : List Ln.T) (ps : List Pt.T) (k : Nat) (h : k < ls.length) : goE rs y m d (ls.drop k) ps = if lineE rs y m d ls[k] ≠ 0 then lineE rs y m d ls[k] else if enterE ls[k].category (Vt.find rs ls[k].category y m d).1 (ls[k].count * ls[k].price) ps ≠ 0 then 7 else goE rs y m d (ls.drop (k + 1)) (enter ls[k].category (Vt.find rs ls[k].category y m d).1 (ls[k].count * ls[k].price) ps) := by
 rw [List.drop_eq_getElem_cons h,goE]
theorem goL_at (rs : List Rt) (y m d : Int) (ls : List Ln.T) (ps : List Pt.T) (k : Nat) (h : k < ls.length) : goL rs y m d (ls.drop k) ps = goL rs y m d (ls.drop (k + 1)) (enter ls[k].category (Vt.find rs ls[k].category y m d).1 (ls[k].count * ls[k].price) ps) := by
 rw [List.drop_eq_getElem_cons h,goL]
def taxed (p : Pt.T) : Pt.T := ⟨p.cat,p.bp,p.net,Sh.taxV p.net p.bp⟩
def upE : List Pt.T → Int → Int → Int
 | [],_,_ => 0
 | p :: l,N,T => if Sh.taxE p.net p.bp ≠ 0 then Sh.taxE p.net p.bp else if Mn.err (N + p.net) ≠ 0 then 7 else if Mn.err (T + Sh.taxV p.net p.bp) ≠ 0 then 7 else upE l (N + p.net) (T + Sh.taxV p.net p.bp)
def nets : List Pt.T → Int
 | [] => 0
 | p :: l => p.net + nets l
def taxes : List Pt.T → Int
 | [] => 0
 | p :: l => Sh.taxV p.net p.bp + taxes l
theorem upE_at (ps : List Pt.T) (N T : Int) (k : Nat) (h : k < ps.length) : upE (ps.drop k) N T = if Sh.taxE ps[k].net ps[k].bp ≠ 0 then Sh.taxE ps[k].net ps[k].bp else if Mn.err (N + ps[k].net) ≠ 0 then 7 else if Mn.err (T + Sh.taxV ps[k].net ps[k].bp) ≠ 0 then 7 else upE (ps.drop (k + 1)) (N + ps[k].net) (T + Sh.taxV ps[k].net ps[k].bp) := by
 rw [List.drop_eq_getElem_cons h,upE]
theorem nets_at (ps : List Pt.T) (k : Nat) (h : k < ps.length) : nets (ps.drop k) = ps[k].net + nets (ps.drop (k + 1)) := by
 rw [List.drop_eq_getElem_cons h,nets]
theorem taxes_at (ps : List Pt.T) (k : Nat) (h : k < ps.length) : taxes (ps.drop k) = Sh.taxV ps[k].net ps[k].bp + taxes (ps.drop (k + 1)) := by
 rw [List.drop_eq_getElem_cons h,taxes]
def mix (ps : List Pt.T) (k : Nat) : List Pt.T := (ps.take k).map taxed ++ ps.drop k
theorem mix_all (ps : List Pt.T) : mix ps ps.length = ps.map taxed := by
 unfold mix
 rw [List.take_length,List.drop_length,List.append_nil]
theorem mix_len (ps : List Pt.T) (k : Nat) : (mix ps k).length = ps.length := by
 unfold mix
 rw [List.length_append,List.length_map,List.length_take,List.length_drop]
 omega
theorem mix_at (ps : List Pt.T) (k : Nat) (h : k < ps.length) : (mix ps k)[k]? = some ps[k] := by
 unfold mix
 rw [List.getElem?_append_right (by rw [List.length_map,List.length_take]; omega),List.length_map,List.length_take,Nat.min_eq_left (by omega),Nat.sub_self,List.getElem?_drop,Nat.add_zero,List.getElem?_eq_getElem h]
theorem mix_set (ps : List Pt.T) (k : Nat) (h : k < ps.length) : (mix ps k).set k (taxed ps[k]) = mix ps (k + 1) := by
 unfold mix
 rw [List.set_append_right _ _ (by rw [List.length_map,List.length_take]; omega),List.length_map,List.length_take,Nat.min_eq_left (by omega),Nat.sub_self,List.drop_eq_getElem_cons h,List.set_cons_zero,List.take_succ_eq_append_getElem h,List.map_append]
 simp
def sumE (ps : List Pt.T) : Int := if upE ps 0 0 ≠ 0 then upE ps 0 0 else Mn.err (nets ps + taxes ps)
def sumT (ps : List Pt.T) : Tot := ⟨nets ps,taxes ps,nets ps + taxes ps,ps.map taxed⟩
def headE (rs : List Rt) (y m d : Int) (ls : List Ln.T) : Int := if Vt.tableB rs = false then 1 else if Dt.rightB y m d = false then 9 else if ls.length = 0 then 1 else if 12 < ls.length then 2 else 0
def totE (rs : List Rt) (y m d : Int) (ls : List Ln.T) : Int :=
 if headE rs y m d ls ≠ 0 then headE rs y m d ls else if goE rs y m d ls [] ≠ 0 then goE rs y m d ls [] else sumE (goL rs y m d ls [])
def totT (rs : List Rt) (y m d : Int) (ls : List Ln.T) : Tot := if totE rs y m d ls = 0 then sumT (goL rs y m d ls []) else Tot.zero
theorem tot_head {rs : List Rt} {y m d : Int} {ls : List Ln.T} (h : headE rs y m d ls ≠ 0) : totE rs y m d ls = headE rs y m d ls ∧ totT rs y m d ls = Tot.zero := by
 have e : totE rs y m d ls = headE rs y m d ls := if_pos h
 exact ⟨e,by unfold totT; rw [e,if_neg h]⟩
theorem tot_line {rs : List Rt} {y m d : Int} {ls : List Ln.T} (h : headE rs y m d ls = 0) (k : goE rs y m d ls [] ≠ 0) : totE rs y m d ls = goE rs y m d ls [] ∧ totT rs y m d ls = Tot.zero := by
 have e : totE rs y m d ls = goE rs y m d ls [] := by
  unfold totE
  rw [if_neg (by rw [h]; simp),if_pos k]
 exact ⟨e,by unfold totT; rw [e,if_neg k]⟩
theorem tot_sum {rs : List Rt} {y m d : Int} {ls : List Ln.T} (h : headE rs y m d ls = 0) (k : goE rs y m d ls [] = 0) : totE rs y m d ls = sumE (goL rs y m d ls []) ∧ totT rs y m d ls = if sumE (goL rs y m d ls []) = 0 then sumT (goL rs y m d ls []) else Tot.zero := by
 have e : totE rs y m d ls = sumE (goL rs y m d ls []) := by
  unfold totE
  rw [if_neg (by rw [h]; simp),if_neg (by rw [k]; simp)]
 exact ⟨e,by unfold totT; rw [e]⟩
end Go.Proofs.YtjpfpojbalepeaaGreat.Iv
namespace Go.Proofs.YtjpfpojbalepeaaGreat.Iv
def negP (p : Pt.T) : Pt.T := ⟨p.cat,p.bp,-p.net,-p.tax⟩
def back (t : Tot) : Tot := ⟨-t.net,-t.tax,-t.gross,t.parts.map negP⟩
def badP (p : Pt.T) : Bool := decide (Mn.err (-p.net) ≠ 0 ∨ Mn.err (-p.tax) ≠ 0)
def backE (t : Tot) : Int := if Mn.err (-t.net) ≠ 0 ∨ Mn.err (-t.tax) ≠ 0 ∨ Mn.err (-t.gross) ≠ 0 then 7 else if t.parts.any badP = true then 7 else 0
def backT (t : Tot) : Tot := if backE t = 0 then back t else Tot.zero
theorem err_0 {x : Int} (h : Mn.err x = 0) : Mn.Fit x := by
 unfold Mn.err at h
 split at h
 · assumption
 · omega
theorem back_head {t : Tot} (h : Mn.err (-t.net) ≠ 0 ∨ Mn.err (-t.tax) ≠ 0 ∨ Mn.err (-t.gross) ≠ 0) : backE t = 7 ∧ backT t = Tot.zero := by
 have e : backE t = 7 := if_pos h
 exact ⟨e,by unfold backT; rw [e]; rfl⟩
theorem back_part {t : Tot} (h1 : Mn.err (-t.net) = 0) (h2 : Mn.err (-t.tax) = 0) (h3 : Mn.err (-t.gross) = 0) {p : Pt.T} (hp : p ∈ t.parts) (h : badP p = true) : backE t = 7 ∧ backT t = Tot.zero := by
 have e : backE t = 7 := by
  unfold backE
  rw [if_neg (by rw [h1,h2,h3]; simp),if_pos (List.any_eq_true.2 ⟨p,hp,h⟩)]
 exact ⟨e,by unfold backT; rw [e]; rfl⟩
theorem back_ok {t : Tot} (h1 : Mn.err (-t.net) = 0) (h2 : Mn.err (-t.tax) = 0) (h3 : Mn.err (-t.gross) = 0) (h : ∀ p ∈ t.parts,badP p = false) : backE t = 0 ∧ backT t = back t := by
 have e : backE t = 0 := by
  unfold backE
  rw [if_neg (by rw [h1,h2,h3]; simp),if_neg (by rw [Bool.not_eq_true,List.any_eq_false]; intro p hp; rw [h p hp]; simp)]
 exact ⟨e,by unfold backT; rw [e]; rfl⟩
theorem bad_no {p : Pt.T} (h1 : Mn.err (-p.net) = 0) (h2 : Mn.err (-p.tax) = 0) : badP p = false := decide_eq_false (by rw [h1,h2]; simp)
theorem bad_yes {p : Pt.T} (h : Mn.err (-p.net) ≠ 0 ∨ Mn.err (-p.tax) ≠ 0) : badP p = true := decide_eq_true h
end Go.Proofs.YtjpfpojbalepeaaGreat.Iv
namespace Go.Proofs.YtjpfpojbalepeaaGreat.Iv
open Vt (Rt)
theorem enter_nil (c : ByteArray) (bp n : Int) : enter c bp n [] = [⟨c,bp,0 + n,0⟩] := rfl
theorem enter_cons (c : ByteArray) (bp n : Int) (a : Pt.T) (l : List Pt.T) : enter c bp n (a :: l) = if lt a.cat c = true then a :: enter c bp n l else if a.cat = c then more a n :: l else ⟨c,bp,0 + n,0⟩ :: a :: l := by
 unfold enter
 rw [ins,spot,part]
 by_cases h : lt a.cat c = true
 ·
  rw [if_pos h,if_pos h,if_pos h,if_pos h]
  rfl
 ·
  rw [if_neg h,if_neg h,if_neg h,if_neg h]
  by_cases k : a.cat = c
  ·
   rw [if_pos k,if_pos k,if_pos k]
   rfl
  ·
   rw [if_neg k,if_neg k,if_neg k]
   rfl
section
variable {c : ByteArray} {bp n : Int} {a : Pt.T} {l : List Pt.T}
theorem enter_lt (h : lt a.cat c = true) : enter c bp n (a :: l) = a :: enter c bp n l := by rw [enter_cons,if_pos h]
theorem enter_eq (h : a.cat = c) : enter c bp n (a :: l) = more a n :: l := by
 rw [enter_cons,if_neg (by rw [h,lt_irrefl]; simp),if_pos h]
theorem enter_gt (h : lt c a.cat = true) : enter c bp n (a :: l) = ⟨c,bp,0 + n,0⟩ :: a :: l := by
 rw [enter_cons,if_neg (by rw [lt_asymm h]; simp),if_neg (fun k => lt_ne h k.symm)]
end
theorem more_more (a : Pt.T) (n m : Int) : more (more a n) m = more (more a m) n := by
 unfold more
 simp only [Pt.T.mk.injEq,true_and,and_true]
 omega
theorem enter_comm {c e : ByteArray} {p q : Int} (h : c = e → p = q) (n m : Int) : ∀ l : List Pt.T,enter c p n (enter e q m l) = enter e q m (enter c p n l)
 | [] => by
  rw [enter_nil,enter_nil]
  rcases lt_tri c e with k | k | k
  · rw [enter_gt k,enter_lt k,enter_nil]
  ·
   obtain rfl := k
   obtain rfl := h rfl
   rw [enter_eq (show (Pt.T.mk c p (0 + m) 0).cat = c from rfl),enter_eq (show (Pt.T.mk c p (0 + n) 0).cat = c from rfl)]
   unfold more
   simp only [List.cons.injEq,Pt.T.mk.injEq,true_and,and_true]
   omega
  · rw [enter_lt k,enter_gt k,enter_nil]
 | a :: l => by
  rcases lt_tri a.cat c with k1 | k1 | k1
  ·
   rcases lt_tri a.cat e with k2 | k2 | k2
   · rw [enter_lt k2,enter_lt k1,enter_lt k1,enter_lt k2,enter_comm h n m l]
   · rw [enter_eq k2,enter_lt k1,enter_lt (show lt (more a m).cat c = true from k1),enter_eq k2]
   ·
    have k3 := lt_trans k2 k1
    rw [enter_gt k2,enter_lt k1,enter_lt (show lt (Pt.T.mk e q (0 + m) 0).cat c = true from k3),enter_lt k1,enter_gt k2]
  ·
   rcases lt_tri a.cat e with k2 | k2 | k2
   · rw [enter_lt k2,enter_eq k1,enter_eq k1,enter_lt (show lt (more a n).cat e = true from k2)]
   · rw [enter_eq k2,enter_eq k1,enter_eq (show (more a m).cat = c from k1),enter_eq (show (more a n).cat = e from k2),more_more]
   ·
    have k3 : lt e c = true := k1 ▸ k2
    rw [enter_gt k2,enter_eq k1,enter_lt (show lt (Pt.T.mk e q (0 + m) 0).cat c = true from k3),enter_eq k1,enter_gt (show lt e (more a n).cat = true from k2)]
  ·
   rcases lt_tri a.cat e with k2 | k2 | k2
   ·
    have k3 := lt_trans k1 k2
    rw [enter_lt k2,enter_gt k1,enter_gt k1,enter_lt (show lt (Pt.T.mk c p (0 + n) 0).cat e = true from k3),enter_lt k2]
   ·
    have k3 : lt c e = true := k2 ▸ k1
    rw [enter_eq k2,enter_gt k1,enter_gt (show lt c (more a m).cat = true from k1),enter_lt (show lt (Pt.T.mk c p (0 + n) 0).cat e = true from k3),enter_eq k2]
   ·
    rw [enter_gt k2,enter_gt k1]
    rcases lt_tri c e with k | k | k
    · rw [enter_gt (show lt c (Pt.T.mk e q (0 + m) 0).cat = true from k),enter_lt (show lt (Pt.T.mk c p (0 + n) 0).cat e = true from k),enter_gt k2]
    ·
     obtain rfl := k
     obtain rfl := h rfl
     rw [enter_eq (show (Pt.T.mk c p (0 + m) 0).cat = c from rfl),enter_eq (show (Pt.T.mk c p (0 + n) 0).cat = c from rfl)]
     unfold more
     simp only [List.cons.injEq,Pt.T.mk.injEq,true_and,and_true]
     omega
    · rw [enter_lt (show lt (Pt.T.mk e q (0 + m) 0).cat c = true from k),enter_gt (show lt e (Pt.T.mk c p (0 + n) 0).cat = true from k),enter_gt k1]
theorem enter_cats {c : ByteArray} {bp n : Int} : ∀ {l : List Pt.T} {x : Pt.T},x ∈ enter c bp n l → x.cat = c ∨ ∃ a ∈ l,x.cat = a.cat
 | [],x,h => by
  rw [enter_nil] at h
  obtain rfl := List.mem_singleton.1 h
  exact .inl rfl
 | a :: l,x,h => by
  rcases lt_tri a.cat c with k | k | k
  ·
   rw [enter_lt k] at h
   rcases List.mem_cons.1 h with rfl | h
   · exact .inr ⟨x,by simp,rfl⟩
   ·
    rcases enter_cats h with h | ⟨b,hb,e⟩
    · exact .inl h
    · exact .inr ⟨b,by simp [hb],e⟩
  ·
   rw [enter_eq k] at h
   rcases List.mem_cons.1 h with rfl | h
   · exact .inl k
   · exact .inr ⟨x,by simp [h],rfl⟩
  ·
   rw [enter_gt k] at h
   rcases List.mem_cons.1 h with rfl | h
   · exact .inl rfl
   · exact .inr ⟨x,h,rfl⟩
theorem enter_sorted {c : ByteArray} {bp n : Int} : ∀ {l : List Pt.T},Sorted l → Sorted (enter c bp n l)
 | [],_ => by
  rw [enter_nil]
  exact List.pairwise_singleton _ _
 | a :: l,h => by
  have h1 := (List.pairwise_cons.1 h).1
  have h2 := (List.pairwise_cons.1 h).2
  rcases lt_tri a.cat c with k | k | k
  ·
   rw [enter_lt k]
   refine List.pairwise_cons.2 ⟨fun x hx => ?_,enter_sorted h2⟩
   rcases enter_cats hx with e | ⟨b,hb,e⟩
   · rw [e]; exact k
   · rw [e]; exact h1 b hb
  ·
   rw [enter_eq k]
   exact List.pairwise_cons.2 ⟨h1,h2⟩
  ·
   rw [enter_gt k]
   refine List.pairwise_cons.2 ⟨fun x hx => ?_,h⟩
   rcases List.mem_cons.1 hx with rfl | hx
   · exact k
   · exact lt_trans k (h1 x hx)
theorem goL_sorted (rs : List Rt) (y m d : Int) : ∀ (ls : List Ln.T) {ps : List Pt.T},Sorted ps → Sorted (goL rs y m d ls ps)
 | [],_,h => h
 | x :: l,_,h => goL_sorted rs y m d l (enter_sorted h)
theorem enter_pos (c : ByteArray) (bp n : Int) (l : List Pt.T) : 0 < (enter c bp n l).length := by
 have := ins_lt (c := c) (bp := bp) l
 unfold enter
 rw [List.length_set]
 omega
theorem goL_pos (rs : List Rt) (y m d : Int) : ∀ (ls : List Ln.T) {ps : List Pt.T},(0 < ls.length ∨ 0 < ps.length) → 0 < (goL rs y m d ls ps).length
 | [],_,h => by
  rcases h with h | h
  · simp at h
  · exact h
 | x :: l,_,_ => goL_pos rs y m d l (.inr (enter_pos _ _ _ _))
theorem goL_len (rs : List Rt) (y m d : Int) : ∀ (ls : List Ln.T) (ps : List Pt.T),(goL rs y m d ls ps).length ≤ ls.length + ps.length
 | [],ps => by simp [goL]
 | x :: l,ps => by
  have h1 := goL_len rs y m d l (enter x.category (Vt.find rs x.category y m d).1 (x.count * x.price) ps)
  have h2 := enter_len (c := x.category) (bp := (Vt.find rs x.category y m d).1) (n := x.count * x.price) ps
  rw [goL,List.length_cons]
  omega
structure Small (x : Ln.T) : Prop where
 c1 : 1 ≤ x.count
 c2 : x.count ≤ 1000
 p1 : -1099511627776 ≤ x.price
 p2 : x.price ≤ 1099511627776
def OkB (ps : List Pt.T) : Prop := ∀ p ∈ ps,Sh.Right p.bp
theorem enter_ok {c : ByteArray} {bp n : Int} (hb : Sh.Right bp) : ∀ {l : List Pt.T},OkB l → OkB (enter c bp n l)
 | [],_ => by
  intro p hp
  rw [enter_nil] at hp
  obtain rfl := List.mem_singleton.1 hp
  exact hb
 | a :: l,h => by
  have h1 : OkB l := fun p hp => h p (by simp [hp])
  rcases lt_tri a.cat c with k | k | k
  ·
   rw [enter_lt k]
   intro p hp
   rcases List.mem_cons.1 hp with rfl | hp
   · exact h _ (by simp)
   · exact enter_ok hb h1 p hp
  ·
   rw [enter_eq k]
   intro p hp
   rcases List.mem_cons.1 hp with rfl | hp
   · exact h a (by simp)
   · exact h1 p hp
  ·
   rw [enter_gt k]
   intro p hp
   rcases List.mem_cons.1 hp with rfl | hp
   · exact hb
   · exact h p hp
end Go.Proofs.YtjpfpojbalepeaaGreat.Iv
namespace Go.Proofs.YtjpfpojbalepeaaGreat.Ba
open Go.RowKit
open Mem
structure T where
 acct : ByteArray
 amt : Int
def Short (r : T) : Prop := r.acct.size ≤ 140737488355328 ∧ Fit r.amt
def box (w : World) (r : T) : World := w.alloc (.cells #[.string r.acct,.int .i64 r.amt] 94)
def C (u : World) (b : Nat) (r : T) : Prop :=
 u.cell? ⟨b,0,none⟩ = some (.string r.acct) ∧ u.cell? ⟨b,1,none⟩ = some (.int .i64 r.amt)
theorem c_box (w : World) (r : T) : C (box w r) w.heap.size r := by
 unfold box C
 simp [go_sem]
theorem below_own (w : World) (r : T) : Below w.heap.size w (box w r) := (Below.refl _ _).alloc (Nat.le_refl _) _
theorem boxed1 (w : World) (a : T) : ∃ W,w.alloc (.cells #[.string a.acct,.int .i64 a.amt] 94) = W ∧ Below w.heap.size w W ∧ C W w.heap.size a :=
 ⟨_,rfl,below_own w a,c_box w a⟩
end Go.Proofs.YtjpfpojbalepeaaGreat.Ba
namespace Go.Proofs.YtjpfpojbalepeaaGreat.Ba
open Go.RowKit
open Mem
structure At (u : World) (b o : Nat) (r : T) : Prop where
 c0 : u.cell? ⟨b,o,none⟩ = some (.string r.acct)
 c1 : u.cell? ⟨b,o + 1,none⟩ = some (.int .i64 r.amt)
theorem At.below {u v : World} {b o : Nat} {r : T} (h : At u b o r) (k : Below u.heap.size u v) : At v b o r := by
 have hl := cell_lt h.c0
 exact ⟨by rw [(bcell k).1 _ _ hl]; exact h.c0,by rw [(bcell k).1 _ _ hl]; exact h.c1⟩
def Seg (w : World) (ao : Option Addr) (rs : List T) : Prop := rs = [] ∨ ∃ b off,ao = some ⟨b,off,none⟩ ∧ ∀ (k : Nat) (hk : k < rs.length),At w b (off + k * 2) rs[k]
theorem Seg.below {w v : World} {ao : Option Addr} {rs : List T} (h : Seg w ao rs) (k : Below w.heap.size w v) : Seg v ao rs := by
 rcases h with h | ⟨b,off,e,h⟩
 · exact .inl h
 · exact .inr ⟨b,off,e,fun i hi => (h i hi).below k⟩
structure Ls (w : World) (ao : Option Addr) (n cap : Nat) (rs : List T) : Prop where
 len : n = rs.length
 fits : n ≤ cap
 reach : cap ≤ 9223372036854775807
 nil : ao = none → cap = 0
 seg : Seg w ao rs
 short : ∀ r ∈ rs,Short r
theorem Ls.below {w v : World} {ao : Option Addr} {n cap : Nat} {rs : List T} (h : Ls w ao n cap rs) (k : Below w.heap.size w v) : Ls v ao n cap rs :=
 ⟨h.len,h.fits,h.reach,h.nil,h.seg.below k,h.short⟩
theorem Ls.at {w : World} {ao : Option Addr} {n cap : Nat} {rs : List T} (h : Ls w ao n cap rs) (hn : 0 < n) : ∃ b off,ao = some ⟨b,off,none⟩ := by
 rcases h.seg with e | ⟨b,off,e,_⟩
 ·
  have := h.len
  rw [e] at this
  simp at this
  omega
 · exact ⟨b,off,e⟩
theorem Ls.row {w : World} {b off n cap : Nat} {rs : List T} (h : Ls w (some ⟨b,off,none⟩) n cap rs) (k : Nat) (hk : k < rs.length) : At w b (off + k * 2) rs[k] := by
 rcases h.seg with e | ⟨b',off',e,hs⟩
 ·
  subst e
  simp at hk
 ·
  cases e
  exact hs k hk
theorem ls_nil (w : World) : Ls w none 0 0 [] := ⟨rfl,Nat.le_refl _,by omega,fun _ => rfl,.inl rfl,by simp⟩
theorem und : Tryz.prog.underlying 39 = some (.slice (Tryz.prog.elem 39)) := by kernel_rfl
theorem size (u : World) : (sizeOf (Tryz.prog.elem 39)).run Tryz.prog u = .ok 2 u := by
 have h : (Tryz.prog.info? (Tryz.prog.elem 39)).map (·.size) = some 2 := by kernel_rfl
 obtain ⟨i,hi,hs⟩ := Option.map_eq_some_iff.1 h
 simp [sizeOf,typeInfo,hi,hs]
end Go.Proofs.YtjpfpojbalepeaaGreat.Ba
