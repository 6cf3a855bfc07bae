import Derived.WalkKit
import Derived.Laws.Runes
import Derived.Deep.RegionHeld3
import Derived.Maps.AppendAt
import Derived.Laws.AppendOwnNone
import Derived.Laws.Rows
import Derived.Laws.CopyOwn
import Derived.Laws.MakeOwn
import Derived.Lib.QuietBelow
import Derived.RegionTactic
import Derived.Lib.MapLaws
import Derived.ProofKit
import Derived.OpenShut
import Derived.ShutString
import Derived.ChangeOld
import Derived.SizedLaws
import Derived.Test.YtmhmajoghbgcfaaGreatDoorShelf
import Derived.Lib.Overlaps
import Derived.Lib.JoinLaws
import Derived.Lib.AppendZerosOnto
import Derived.Deep.RegionLaw
import Derived.Test.YtmhmajoghbgcfaaGreatDoorZWr1
import Derived.Test.YtmhmajoghbgcfaaGreatDoorZWr2
namespace Go.Proofs.YtmhmajoghbgcfaaGreatDoor.Et
open Go.RowKit
open Mem
def zeros (n : Nat) : Array Value := ((List.replicate n zero).flatMap rv).toArray
theorem made (n : Nat) : madeCells zeroV.cells (n * 3) = zeros n := by
 apply Array.ext_getElem?
 intro j
 by_cases hj : j < n * 3
 ·
  obtain ⟨k,p,rfl,hp⟩ : ∃ k p,j = k * 3 + p ∧ p < 3 := ⟨j / 3,j % 3,by omega,by omega⟩
  have hk : k < n := by omega
  have hz : (zeros n)[k * 3 + p]? = (rv zero)[p]? := by
   unfold zeros
   rw [List.getElem?_toArray,flat_at (List.replicate n zero) k p (by simpa using hk) hp,List.getElem_replicate]
  rw [hz]
  have e : (k * 3 + p) % 3 = p := by omega
  have hp' : p = 0 ∨ p = 1 ∨ p = 2 := by omega
  unfold madeCells
  rw [Array.getElem?_map,Array.getElem?_range,if_pos hj]
  simp only [Option.map_some]
  rw [show zeroV.cells.size = 3 from rfl,e]
  rcases hp' with rfl | rfl | rfl <;> rfl
 ·
  rw [Array.getElem?_eq_none (by rw [size_madeCells]; omega),Array.getElem?_eq_none]
  unfold zeros
  rw [List.size_toArray,flat_len,List.length_replicate]
  omega
end Go.Proofs.YtmhmajoghbgcfaaGreatDoor.Et
namespace Go.Proofs.YtmhmajoghbgcfaaGreatDoor.Dt
def isDig (b : UInt8) : Bool := decide (48 ≤ b.toNat ∧ b.toNat ≤ 57)
theorem less_cons (a b : UInt8) (x y : List UInt8) : Op.bytesLess (a :: x) (b :: y) = true ↔ a < b ∨ (a = b ∧ Op.bytesLess x y = true) := by
 simp [Op.bytesLess]
theorem less_same (a : UInt8) (x y : List UInt8) : Op.bytesLess (a :: x) (a :: y) = true ↔ Op.bytesLess x y = true := by
 simp [Op.bytesLess]
theorem less_nil (x : List UInt8) : Op.bytesLess x [] = false := by
 cases x <;> rfl
end Go.Proofs.YtmhmajoghbgcfaaGreatDoor.Dt
namespace Go.Proofs.YtmhmajoghbgcfaaGreatDoor.Vt
theorem less_irrefl : ∀ l : List UInt8,Op.bytesLess l l = false
 | [] => rfl
 | a :: l => by
  have h := less_irrefl l
  rw [Bool.eq_false_iff]
  intro k
  rw [Dt.less_same,h] at k
  cases k
theorem less_trans : ∀ a b c : List UInt8,Op.bytesLess a b = true → Op.bytesLess b c = true → Op.bytesLess a c = true
 | _,_,[],_,h => by rw [Dt.less_nil] at h; cases h
 | _,[],_ :: _,h,_ => by rw [Dt.less_nil] at h; cases h
 | [],_ :: _,_ :: _,_,_ => rfl
 | x :: a,y :: b,z :: c,h,k => by
  rw [Dt.less_cons] at h k ⊢
  rcases h with h | ⟨rfl,h⟩
  ·
   rcases k with k | ⟨rfl,k⟩
   · exact .inl (UInt8.lt_trans h k)
   · exact .inl h
  ·
   rcases k with k | ⟨rfl,k⟩
   · exact .inl k
   · exact .inr ⟨rfl,less_trans a b c h k⟩
theorem less_tri : ∀ a b : List UInt8,Op.bytesLess a b = true ∨ a = b ∨ Op.bytesLess b a = true
 | [],[] => .inr (.inl rfl)
 | [],_ :: _ => .inl rfl
 | _ :: _,[] => .inr (.inr rfl)
 | x :: a,y :: b => by
  rw [Dt.less_cons,Dt.less_cons]
  have h3 : x.toNat < y.toNat ∨ x.toNat = y.toNat ∨ y.toNat < x.toNat := by omega
  rcases h3 with h | h | h
  · exact .inl (.inl (UInt8.lt_iff_toNat_lt.2 h))
  ·
   obtain rfl : x = y := UInt8.toNat_inj.1 h
   rcases less_tri a b with k | rfl | k
   · exact .inl (.inr ⟨rfl,k⟩)
   · exact .inr (.inl rfl)
   · exact .inr (.inr (.inr ⟨rfl,k⟩))
  · exact .inr (.inr (.inl (UInt8.lt_iff_toNat_lt.2 h)))
theorem cat_ext {a b : ByteArray} (h : a.toList = b.toList) : a = b := txt_ext (by rw [← tl,← tl]; exact h)
end Go.Proofs.YtmhmajoghbgcfaaGreatDoor.Vt
set_option linter.unusedVariables false
namespace Go.Proofs.YtmhmajoghbgcfaaGreatDoor.Dk
structure F where
 name : ByteArray
 bs : List UInt8
 kept : Nat
structure D where
 fs : List F
 off : Bool
 left : Int
def lt (a b : ByteArray) : Bool := Op.bytesLess a.toList b.toList
theorem lt_trans {a b c : ByteArray} (h : lt a b = true) (k : lt b c = true) : lt a c = true := Vt.less_trans _ _ _ h k
theorem lt_irrefl (a : ByteArray) : lt a a = false := Vt.less_irrefl _
theorem lt_tri (a b : ByteArray) : lt a b = true ∨ a = b ∨ lt b a = true := by
 rcases Vt.less_tri a.toList b.toList with h | h | h
 · exact .inl h
 · exact .inr (.inl (Vt.cat_ext h))
 · exact .inr (.inr h)
theorem lt_ne {a b : ByteArray} (h : lt a b = true) : a ≠ b := by
 intro e
 rw [e,lt_irrefl] at h
 cases h
def Sorted (l : List F) : Prop := l.Pairwise fun a b => lt a.name b.name = true
def spot (s : ByteArray) : List F → Nat
 | [] => 0
 | f :: l => if lt f.name s = true then spot s l + 1 else 0
theorem spot_le (s : ByteArray) : ∀ l : List F,spot s l ≤ l.length
 | [] => Nat.le_refl _
 | f :: l => by
  have := spot_le s l
  rw [spot,List.length_cons]
  split <;> omega
theorem spot_iff (s : ByteArray) : ∀ (l : List F),Sorted l → ∀ i (hi : i < l.length),lt l[i].name s = true ↔ i < spot s l
 | f :: l,h,0,_ => by
  show lt f.name s = true ↔ _
  rw [spot]
  split
  ·
   rename_i k
   exact ⟨fun _ => Nat.succ_pos _,fun _ => k⟩
  ·
   rename_i k
   exact ⟨fun z => absurd z k,fun z => absurd z (Nat.not_lt_zero _)⟩
 | f :: l,h,i + 1,hi => by
  have hs := List.pairwise_cons.1 h
  have hi' : i < l.length := by simpa using hi
  have ih := spot_iff s l hs.2 i hi'
  show lt l[i].name s = true ↔ _
  rw [spot]
  split
  ·
   rw [ih]
   omega
  ·
   rename_i k
   constructor
   ·
    intro z
    exact absurd (lt_trans (hs.1 _ (List.getElem_mem hi')) z) k
   ·
    intro z
    exact absurd z (Nat.not_lt_zero _)
def has (s : ByteArray) (l : List F) : Bool := l.any fun f => decide (f.name = s)
theorem has_iff {s : ByteArray} {l : List F} : has s l = true ↔ ∃ i,∃ hi : i < l.length,l[i].name = s := by
 unfold has
 rw [List.any_eq_true]
 constructor
 ·
  rintro ⟨f,hf,h⟩
  obtain ⟨i,hi,rfl⟩ := List.getElem_of_mem hf
  exact ⟨i,hi,of_decide_eq_true h⟩
 ·
  rintro ⟨i,hi,h⟩
  exact ⟨l[i],List.getElem_mem hi,decide_eq_true h⟩
theorem has_spot {s : ByteArray} {l : List F} (hs : Sorted l) : has s l = true ↔ ∃ h : spot s l < l.length,l[spot s l].name = s := by
 rw [has_iff]
 constructor
 ·
  rintro ⟨i,hi,h⟩
  have e : spot s l = i := by
   have h1 := spot_iff s l hs i hi
   rw [h,lt_irrefl] at h1
   have h2 : ¬ i < spot s l := fun z => by cases h1.2 z
   rcases Nat.lt_or_ge (spot s l) i with k | k
   ·
    exfalso
    have hk : spot s l < l.length := by omega
    have h3 := spot_iff s l hs _ hk
    have h4 := List.pairwise_iff_getElem.1 hs (spot s l) i hk hi k
    rw [h] at h4
    exact absurd (h3.1 h4) (Nat.lt_irrefl _)
   · omega
  exact ⟨by omega,by simp only [e]; exact h⟩
 ·
  rintro ⟨h1,h2⟩
  exact ⟨_,h1,h2⟩
theorem spot_lt {s : ByteArray} {l : List F} (hs : Sorted l) (h : has s l = true) : spot s l < l.length := (has_spot hs).1 h |>.1
theorem spot_name {s : ByteArray} {l : List F} (hs : Sorted l) (h : has s l = true) : (l[spot s l]'(spot_lt hs h)).name = s := ((has_spot hs).1 h).2
theorem one_name {s : ByteArray} {l : List F} (hs : Sorted l) {i : Nat} (hi : i < l.length) (h : l[i].name = s) : i = spot s l := by
 have hh : has s l = true := has_iff.2 ⟨i,hi,h⟩
 have h1 := spot_lt hs hh
 have h2 := spot_name hs hh
 rcases Nat.lt_trichotomy i (spot s l) with k | k | k
 ·
  have := List.pairwise_iff_getElem.1 hs i (spot s l) hi h1 k
  rw [h,h2,lt_irrefl] at this
  cases this
 · exact k
 ·
  have := List.pairwise_iff_getElem.1 hs (spot s l) i h1 hi k
  rw [h,h2,lt_irrefl] at this
  cases this
theorem not_at {s : ByteArray} {l : List F} (hs : Sorted l) (h : has s l = false) {i : Nat} (hi : i < l.length) (k : spot s l ≤ i) : lt s l[i].name = true := by
 rcases lt_tri s l[i].name with z | z | z
 · exact z
 ·
  have := has_iff.2 ⟨i,hi,z.symm⟩
  rw [h] at this
  cases this
 ·
  have := (spot_iff s l hs i hi).1 z
  omega
def ins (f : F) (l : List F) : List F := l.take (spot f.name l) ++ f :: l.drop (spot f.name l)
def put (f : F) (l : List F) : List F := if has f.name l = true then l.set (spot f.name l) f else ins f l
def del (s : ByteArray) (l : List F) : List F := l.take (spot s l) ++ l.drop (spot s l + 1)
def own (s : ByteArray) (l : List F) : F := if has s l = true then (l[spot s l]?).getD ⟨s,[],0⟩ else ⟨s,[],0⟩
theorem own_at {s : ByteArray} {l : List F} (hs : Sorted l) (h : has s l = true) : own s l = l[spot s l]'(spot_lt hs h) := by
 unfold own
 rw [if_pos h,List.getElem?_eq_getElem (spot_lt hs h)]
 rfl
theorem own_no {s : ByteArray} {l : List F} (h : has s l = false) : own s l = ⟨s,[],0⟩ := if_neg (by rw [h]; exact Bool.false_ne_true)
theorem own_name {s : ByteArray} {l : List F} (hs : Sorted l) : (own s l).name = s := by
 cases h : has s l
 · rw [own_no h]
 ·
  rw [own_at hs h]
  exact spot_name hs h
theorem ins_sorted {f : F} {l : List F} (hs : Sorted l) (h : has f.name l = false) : Sorted (ins f l) := by
 unfold ins Sorted
 rw [List.pairwise_append]
 refine ⟨hs.sublist (List.take_sublist _ _),List.pairwise_cons.2 ⟨fun x hx => ?_,hs.sublist (List.drop_sublist _ _)⟩,fun x hx y hy => ?_⟩
 ·
  obtain ⟨i,hi,rfl⟩ := List.getElem_of_mem hx
  rw [List.length_drop] at hi
  rw [List.getElem_drop]
  exact not_at hs h (by omega) (by omega)
 ·
  obtain ⟨i,hi,rfl⟩ := List.getElem_of_mem hx
  rw [List.length_take] at hi
  rw [List.getElem_take]
  have h1 := (spot_iff f.name l hs i (by omega)).2 (by omega)
  rcases List.mem_cons.1 hy with rfl | hy
  · exact h1
  ·
   obtain ⟨j,hj,rfl⟩ := List.getElem_of_mem hy
   rw [List.length_drop] at hj
   rw [List.getElem_drop]
   exact List.pairwise_iff_getElem.1 hs i _ (by omega) (by omega) (by omega)
theorem set_sorted {f : F} {l : List F} (hs : Sorted l) {i : Nat} (hi : i < l.length) (h : l[i].name = f.name) : Sorted (l.set i f) := by
 unfold Sorted
 rw [List.pairwise_iff_getElem]
 intro a b ha hb hab
 rw [List.length_set] at ha hb
 have h1 := List.pairwise_iff_getElem.1 hs a b ha hb hab
 rw [List.getElem_set,List.getElem_set]
 by_cases e1 : i = a
 ·
  subst e1
  rw [if_pos rfl,if_neg (by omega)]
  rw [h] at h1
  exact h1
 ·
  rw [if_neg e1]
  by_cases e2 : i = b
  ·
   subst e2
   rw [if_pos rfl]
   rw [h] at h1
   exact h1
  ·
   rw [if_neg e2]
   exact h1
theorem put_sorted {f : F} {l : List F} (hs : Sorted l) : Sorted (put f l) := by
 unfold put
 split
 ·
  rename_i h
  exact set_sorted hs (spot_lt hs h) (spot_name hs h)
 ·
  rename_i h
  exact ins_sorted hs (Bool.eq_false_iff.2 h)
theorem del_sorted {s : ByteArray} {l : List F} (hs : Sorted l) : Sorted (del s l) := by
 unfold del
 have e : (l.take (spot s l) ++ l.drop (spot s l + 1)).Sublist l := by
  conv => rhs; rw [← List.take_append_drop (spot s l) l]
  refine List.Sublist.append (List.Sublist.refl _) ?_
  rw [← List.drop_drop]
  exact List.drop_sublist _ _
 exact hs.sublist e
def nameOk (s : ByteArray) : Bool := decide (1 ≤ s.size ∧ s.size ≤ 24) && (txt s).all fun c => decide (33 ≤ c.toNat ∧ c.toNat ≤ 126)
def total : List F → Nat
 | [] => 0
 | f :: l => f.bs.length + total l
theorem total_app (l m : List F) : total (l ++ m) = total l + total m := by
 induction l with
 | nil => simp [total]
 | cons f l ih => rw [List.cons_append,total,total,ih]; omega
theorem total_mem {f : F} {l : List F} (h : f ∈ l) : f.bs.length ≤ total l := by
 induction l with
 | nil => cases h
 | cons g l ih =>
  rw [total]
  rcases List.mem_cons.1 h with rfl | h
  · omega
  ·
   have := ih h
   omega
theorem total_set {l : List F} {i : Nat} (hi : i < l.length) (f : F) : total (l.set i f) + l[i].bs.length = total l + f.bs.length := by
 have h1 : l = l.take i ++ l[i] :: l.drop (i + 1) := by rw [← List.drop_eq_getElem_cons hi,List.take_append_drop]
 have h2 : l.set i f = l.take i ++ f :: l.drop (i + 1) := List.set_eq_take_append_cons_drop.trans (if_pos hi)
 have e1 : total l = total (l.take i ++ l[i] :: l.drop (i + 1)) := congrArg total h1
 rw [h2,e1,total_app,total_app,total,total]
 omega
theorem total_ins (f : F) (l : List F) : total (ins f l) = total l + f.bs.length := by
 unfold ins
 have e1 : total l = total (l.take (spot f.name l) ++ l.drop (spot f.name l)) := congrArg total (List.take_append_drop _ _).symm
 rw [e1,total_app,total_app,total]
 omega
theorem total_del {s : ByteArray} {l : List F} (h : spot s l < l.length) : total (del s l) + l[spot s l].bs.length = total l := by
 unfold del
 have e1 : total l = total (l.take (spot s l) ++ l[spot s l] :: l.drop (spot s l + 1)) := by rw [← List.drop_eq_getElem_cons h,List.take_append_drop]
 rw [e1,total_app,total_app,total]
 omega
structure Ok (d : D) : Prop where
 sorted : Sorted d.fs
 kept : ∀ f ∈ d.fs,f.kept ≤ f.bs.length
 room : total d.fs ≤ 4194304
 names : ∀ f ∈ d.fs,f.name.size ≤ 24
 left : -1 ≤ d.left ∧ d.left ≤ 9223372036854775807
def new : D := ⟨[],false,-1⟩
theorem ok_new : Ok new := ⟨List.Pairwise.nil,fun f h => (by cases h),(by show (0 : Nat) ≤ _; omega),fun f h => (by cases h),⟨by show (-1 : Int) ≤ -1; omega,by show (-1 : Int) ≤ _; omega⟩⟩
def dec (x : Int) : Int := if 0 < x then x - 1 else x
def spent (d : D) : D := ⟨d.fs,d.off,dec d.left⟩
def down (d : D) : D := ⟨d.fs,true,d.left⟩
def with' (d : D) (fs : List F) : D := ⟨fs,d.off,dec d.left⟩
def appD (d : D) (s : ByteArray) (p : List UInt8) : Int × D :=
 if d.off = true then (18,d) else if nameOk s = false then (19,d) else if 4194304 < total d.fs + p.length then (14,d) else if d.left = 0 then (18,down d) else
 (0,with' d (put ⟨s,(own s d.fs).bs ++ p,(own s d.fs).kept⟩ d.fs))
def syncD (d : D) (s : ByteArray) : Int × D :=
 if d.off = true then (18,d) else if has s d.fs = false then (11,d) else if d.left = 0 then (18,down d) else
 (0,with' d (put ⟨s,(own s d.fs).bs,(own s d.fs).bs.length⟩ d.fs))
def cutD (d : D) (s : ByteArray) (n : Int) : Int × D :=
 if d.off = true then (18,d) else if has s d.fs = false then (11,d) else if n < 0 ∨ ((own s d.fs).bs.length : Int) < n then (1,d) else if d.left = 0 then (18,down d) else
 (0,with' d (put ⟨s,(own s d.fs).bs.take n.toNat,min (own s d.fs).kept n.toNat⟩ d.fs))
def remD (d : D) (s : ByteArray) : Int × D :=
 if d.off = true then (18,d) else if has s d.fs = false then (11,d) else if d.left = 0 then (18,down d) else (0,with' d (del s d.fs))
def armD (d : D) (n : Int) : D := ⟨d.fs,d.off,if n < 0 then -1 else n⟩
def flip (b : List UInt8) : List UInt8 := b.set (b.length - 1) (b.getLast?.getD 0 ^^^ 255)
def tear (f : F) (p : Nat) : F :=
 let u := f.bs.length - f.kept
 let k := p % (u + 1)
 let b := f.bs.take (f.kept + k)
 let c := if 0 < k ∧ p / (u + 1) % 2 = 1 then flip b else b
 ⟨f.name,c,c.length⟩
def pick (l : List Int) (i : Nat) : Nat := ((l[i]?).getD 0).toNat
def crashD (d : D) (picks : List Int) : D := ⟨d.fs.mapIdx fun i f => tear f (pick picks i),false,-1⟩
end Go.Proofs.YtmhmajoghbgcfaaGreatDoor.Dk
namespace Go.Proofs.YtmhmajoghbgcfaaGreatDoor.Fl
open Go.RowKit
open Mem
structure T where
 name : ByteArray
 bytes : Sl
 kept : Int
def Short (r : T) : Prop := r.name.size ≤ 140737488355328 ∧ Fit r.kept
def box (w : World) (r : T) : World := w.alloc (.cells #[.string r.name,.slice r.bytes.ao r.bytes.n r.bytes.cap,.int .i64 r.kept] 90)
def C (u : World) (b : Nat) (r : T) : Prop :=
 u.cell? ⟨b,0,none⟩ = some (.string r.name) ∧ u.cell? ⟨b,1,none⟩ = some (.slice r.bytes.ao r.bytes.n r.bytes.cap) ∧ u.cell? ⟨b,2,none⟩ = some (.int .i64 r.kept)
theorem c_box (w : World) (r : T) : C (box w r) w.heap.size r := by
 unfold box C
 simp [go_sem]
theorem below_own (w : World) (r : T) : Below w.heap.size w (box w r) := (Below.refl _ _).alloc (Nat.le_refl _) _
theorem boxed1 (w : World) (a : T) : ∃ W,w.alloc (.cells #[.string a.name,.slice a.bytes.ao a.bytes.n a.bytes.cap,.int .i64 a.kept] 90) = W ∧ Below w.heap.size w W ∧ C W w.heap.size a :=
 ⟨_,rfl,below_own w a,c_box w a⟩
end Go.Proofs.YtmhmajoghbgcfaaGreatDoor.Fl
namespace Go.Proofs.YtmhmajoghbgcfaaGreatDoor.Fl
open Go.RowKit
open Mem
structure At (u : World) (b o : Nat) (r : T) : Prop where
 c0 : u.cell? ⟨b,o,none⟩ = some (.string r.name)
 c1 : u.cell? ⟨b,o + 1,none⟩ = some (.slice r.bytes.ao r.bytes.n r.bytes.cap)
 c2 : u.cell? ⟨b,o + 2,none⟩ = some (.int .i64 r.kept)
theorem At.below {u v : World} {b o : Nat} {r : T} (h : At u b o r) (k : Below u.heap.size u v) : At v b o r := by
 have hl := cell_lt h.c0
 exact ⟨by rw [(bcell k).1 _ _ hl]; exact h.c0,by rw [(bcell k).1 _ _ hl]; exact h.c1,by rw [(bcell k).1 _ _ hl]; exact h.c2⟩
def Seg (w : World) (ao : Option Addr) (rs : List T) : Prop := rs = [] ∨ ∃ b off,ao = some ⟨b,off,none⟩ ∧ ∀ (k : Nat) (hk : k < rs.length),At w b (off + k * 3) rs[k]
structure Ls (w : World) (ao : Option Addr) (n cap : Nat) (rs : List T) : Prop where
 len : n = rs.length
 fits : n ≤ cap
 reach : cap ≤ 9223372036854775807
 nil : ao = none → cap = 0
 seg : Seg w ao rs
 short : ∀ r ∈ rs,Short r
theorem Ls.at {w : World} {ao : Option Addr} {n cap : Nat} {rs : List T} (h : Ls w ao n cap rs) (hn : 0 < n) : ∃ b off,ao = some ⟨b,off,none⟩ := by
 rcases h.seg with e | ⟨b,off,e,_⟩
 ·
  have := h.len
  rw [e] at this
  simp at this
  omega
 · exact ⟨b,off,e⟩
theorem Ls.row {w : World} {b off n cap : Nat} {rs : List T} (h : Ls w (some ⟨b,off,none⟩) n cap rs) (k : Nat) (hk : k < rs.length) : At w b (off + k * 3) rs[k] := by
 rcases h.seg with e | ⟨b',off',e,hs⟩
 ·
  subst e
  simp at hk
 ·
  cases e
  exact hs k hk
theorem und : Tryz.prog.underlying 74 = some (.slice (Tryz.prog.elem 74)) := by kernel_rfl
theorem size (u : World) : (sizeOf (Tryz.prog.elem 74)).run Tryz.prog u = .ok 3 u := by
 have h : (Tryz.prog.info? (Tryz.prog.elem 74)).map (·.size) = some 3 := by kernel_rfl
 obtain ⟨i,hi,hs⟩ := Option.map_eq_some_iff.1 h
 simp [sizeOf,typeInfo,hi,hs]
theorem Ls.to {w : World} {ao : Option Addr} {n cap : Nat} {rs : List T} (h : Ls w ao n cap rs) (k : Nat) (hk : k ≤ n) :
  (∀ u,(Instr.slice 74 (.slice ao n cap) none (some (.int .i64 (k : Int))) none).run Tryz.prog u = .ok (.slice ao k cap) u) ∧ Ls w ao k cap (rs.take k) := by
 have hl := h.len
 have hf := h.fits
 refine ⟨fun u => ?_,⟨by rw [List.length_take]; omega,by omega,h.reach,h.nil,?_,fun r hr => h.short r (List.mem_of_mem_take hr)⟩⟩
 ·
  rw [run_slice_h u 74 ao n cap und .i64 k (by omega) (by omega),size]
  have e : Option.map (fun x : Addr => x.add 0) ao = ao := by cases ao <;> simp [Addr.add]
  simp [Result.andThen,sliced,e]
 ·
  rcases h.seg with e | ⟨b,off,e,hc⟩
  · exact .inl (by rw [e]; simp)
  ·
   refine .inr ⟨b,off,e,fun j hj => ?_⟩
   rw [List.length_take] at hj
   rw [List.getElem_take]
   exact hc j (by omega)
theorem Ls.from {w : World} {ao : Option Addr} {n cap : Nat} {rs : List T} (h : Ls w ao n cap rs) (k : Nat) (hk : k ≤ n) :
  ∃ ao2 cap2,(∀ u,(Instr.slice 74 (.slice ao n cap) (some (.int .i64 (k : Int))) none none).run Tryz.prog u = .ok (.slice ao2 (n - k) cap2) u) ∧ Ls w ao2 (n - k) cap2 (rs.drop k) := by
 have hl := h.len
 have hf := h.fits
 refine ⟨if cap = k then ao else ao.map (·.add (k * 3)),cap - k,fun u => ?_,⟨by rw [List.length_drop]; omega,by omega,by have := h.reach; omega,?_,?_,fun r hr => h.short r (List.mem_of_mem_drop hr)⟩⟩
 ·
  rw [run_slice_l u 74 ao n cap und .i64 k (by omega) (by omega),size]
  simp [Result.andThen,sliced]
 ·
  by_cases e : cap = k
  · omega
  ·
   rw [if_neg e]
   cases ao with
   | none => have := h.nil rfl; omega
   | some a => exact fun k => by cases k
 ·
  by_cases hkn : k = n
  · exact .inl (List.drop_eq_nil_of_le (by omega))
  ·
   rcases h.seg with e | ⟨b,off,rfl,hc⟩
   · exact .inl (by rw [e]; simp)
   ·
    refine .inr ⟨b,off + k * 3,?_,fun j hj => ?_⟩
    ·
     rw [if_neg (by omega)]
     unfold Addr.add
     simp only [Option.map_some,Option.some.injEq]
     split
     ·
      rename_i e
      rw [e]
      rfl
     · rfl
    ·
     rw [List.length_drop] at hj
     rw [List.getElem_drop,show off + k * 3 + j * 3 = off + (k + j) * 3 by omega]
     exact hc (k + j) (by omega)
end Go.Proofs.YtmhmajoghbgcfaaGreatDoor.Fl
namespace Go.Proofs.YtmhmajoghbgcfaaGreatDoor.Fl
open Go.RowKit
open Mem
def rv (r : T) : List Value := [.string r.name,.slice r.bytes.ao r.bytes.n r.bytes.cap,.int .i64 r.kept]
theorem rv_len (r : T) : (rv r).length = 3 := rfl
theorem flat_len : ∀ rs : List T,(rs.flatMap rv).length = rs.length * 3
 | [] => rfl
 | r :: l => by
  rw [List.flatMap_cons,List.length_append,rv_len,flat_len l,List.length_cons]
  omega
theorem flat_at : ∀ (rs : List T) (k p : Nat) (hk : k < rs.length),p < 3 → (rs.flatMap rv)[k * 3 + p]? = (rv rs[k])[p]?
 | r :: l,0,p,_,hp => by
  rw [List.flatMap_cons,List.getElem?_append_left (by rw [rv_len]; omega),Nat.zero_mul,Nat.zero_add]
  rfl
 | r :: l,k + 1,p,hk,hp => by
  rw [List.flatMap_cons,List.getElem?_append_right (by rw [rv_len]; omega),rv_len,show (k + 1) * 3 + p - 3 = k * 3 + p by omega]
  exact flat_at l k p (by simpa using hk) hp
theorem one_cell (rs : List T) : ∀ v ∈ rs.flatMap rv,v.oneCell' = true := by
 intro v hv
 obtain ⟨r,_,h⟩ := List.mem_flatMap.1 hv
 unfold rv at h
 simp only [List.mem_cons,List.not_mem_nil,or_false] at h
 rcases h with rfl | rfl | rfl <;> rfl
theorem news_of {w : World} {b off : Nat} {rs : List T} (h : ∀ (k : Nat) (hk : k < rs.length),At w b (off + k * 3) rs[k]) (j : Nat) (u : Value) (hu : (rs.flatMap rv)[j]? = some u) : w.cell? ((⟨b,off,none⟩ : Addr).add j) = some u := by
 have hj : j < (rs.flatMap rv).length := by
  obtain ⟨hj,_⟩ := List.getElem?_eq_some_iff.1 hu
  exact hj
 rw [flat_len] at hj
 obtain ⟨k,p,rfl,hp⟩ : ∃ k p,j = k * 3 + p ∧ p < 3 := ⟨j / 3,j % 3,by omega,by omega⟩
 have hk : k < rs.length := by omega
 rw [flat_at rs k p hk hp] at hu
 have ha : (⟨b,off,none⟩ : Addr).add (k * 3 + p) = ⟨b,off + k * 3 + p,none⟩ := by
  unfold Addr.add
  split
  ·
   rename_i e
   simp only [Addr.mk.injEq,true_and,and_true]
   omega
  ·
   simp only [Addr.mk.injEq,true_and,and_true]
   omega
 rw [ha]
 obtain ⟨c0,c1,c2⟩ := h k hk
 have hp' : p = 0 ∨ p = 1 ∨ p = 2 := by omega
 unfold rv at hu
 rcases hp' with rfl | rfl | rfl
 all_goals simp at hu
 all_goals subst hu
 · exact c0
 · exact c1
 · exact c2
def Own (w : World) (B : Nat) (v : Value) (xs : List T) : Prop := w.ownsRow B 90 3 v xs.length (xs.flatMap rv)
theorem own_nil (w : World) (B : Nat) : Own w B (.slice none 0 0) [] := ⟨rfl,.inl ⟨rfl,rfl⟩⟩
theorem own_ls {w : World} {B : Nat} {v : Value} {xs : List T} (h : Own w B v xs) (hs : ∀ r ∈ xs,Short r) : ∃ ao cap,v = .slice ao xs.length cap ∧ Ls w ao xs.length cap xs ∧ (∀ ad,ao = some ad → ∃ g,ad = ⟨g,0,none⟩ ∧ B ≤ g) := by
 rcases h.2 with ⟨h',h2⟩ | ⟨g,cap,cur,h',hb,hg,hnc,hcm,hcs,htake⟩
 ·
  have e : xs = [] := List.length_eq_zero_iff.1 h2
  subst e
  exact ⟨none,0,h',⟨rfl,Nat.le_refl _,by omega,fun _ => rfl,.inl rfl,hs⟩,fun ad k => by cases k⟩
 ·
  refine ⟨some ⟨g,0,none⟩,cap,h',⟨rfl,hnc,hcm,fun k => (by cases k),.inr ⟨g,0,rfl,fun k hk => ?_⟩,hs⟩,fun ad k => by cases k; exact ⟨g,rfl,hb⟩⟩
  have hcell : ∀ p,p < 3 → w.cell? ⟨g,0 + k * 3 + p,none⟩ = (rv xs[k])[p]? := by
   intro p hp
   rw [Nat.zero_add,cell_of_row w g _ _ _ _ hg,← flat_at xs k p hk hp,← htake,List.getElem?_take_of_lt (by omega)]
   simp
  exact ⟨hcell 0 (by omega),hcell 1 (by omega),hcell 2 (by omega)⟩
def zero : T := ⟨.empty,⟨none,0,0⟩,0⟩
def zeroV : Value := .agg #[.string .empty,.slice none 0 0,.int .i64 0]
theorem info : (Tryz.prog.info? 90).map (fun i => (i.zero,i.size,i.bytes)) = some (some zeroV,3,48) := by kernel_rfl
theorem wp_append {o : Oper} {a : Act} {K : Act → World → Prop} {Q : Exit → Act → World → Prop} (w : World) (s x : Operand)
  (ho : o.op = .call { callee := .builtin .append,args := #[s,x],argTypes := #[74,74] })
  (B : Nat) (v : Value) (xs : List T) (hs : a.eval s = v) (hown : Own w B v xs)
  (ao : Option Addr) (n cap : Nat) (zs : List T) (hx : a.eval x = .slice ao n cap) (hn : n = zs.length) (hnil : ao = none → cap = 0) (hsrc : Seg w ao zs) (hl : (xs.length + n) * 48 ≤ 140737488355328) (hb : B ≤ w.heap.size)
  (h : ∀ v' w1,Own w1 B v' (xs ++ zs) → w.grownBy w1 v.ownBlock → (v'.ownBlock = v.ownBlock ∨ v'.ownBlock = some w.heap.size) → K (a.put o.dst v') w1) : o.wp Tryz.prog a w K Q := by
 have hzs : zeroV.cells.size = 3 := rfl
 obtain ⟨i0,hi,hz0,hz1,hz2⟩ := info_parts info
 have hmx : maxLen = 9223372036854775807 := rfl
 have empty : zs = [] → n = 0 → Own w B v (xs ++ zs) := by
  intro e _
  rw [e,List.append_nil]
  exact hown
 cases ao with
 | none =>
  obtain rfl : cap = 0 := hnil rfl
  rcases hsrc with e | ⟨b,off,e,_⟩
  ·
   obtain rfl : n = 0 := by rw [hn,e]; rfl
   have hrun := run_append_owned_none (P := Tryz.prog) (w := w) B 74 o.type 90 i0 3 Tryz.underlying74 hi v _ _ hown
   unfold Oper.wp
   simp [execOp,ho,resolve,invoke,builtin,hs,hx,hrun,Result.andThen]
   exact h v w (empty e rfl) ⟨rfl,rfl,rfl,Nat.le_refl _,fun _ _ _ => rfl⟩ (.inl rfl)
  · cases e
 | some ad =>
  obtain ⟨v',w',hr,h2,h3,_,h5⟩ := run_append_own_at (P := Tryz.prog) w B 74 o.type 90 i0 zeroV 3 48 Tryz.underlying74 hi hz0 hz1 hz2 hzs (by omega) v xs.length (xs.flatMap rv) hown ad n cap (zs.flatMap rv) (by rw [flat_len,hn]) (by
   rcases hsrc with e | ⟨b,off,e,hc⟩
   ·
    rw [e]
    intro j u hu
    simp at hu
   ·
    cases e
    exact fun j u hu => news_of hc j u hu) (one_cell zs) (by omega) hl hb
  unfold Oper.wp execOp
  simp only [ho,resolve,invoke,builtin,Sem.run_bind,Sem.run_pure,Result.andThen_ok,List.map_toArray,List.map_cons,List.map_nil,hs,hx,hr]
  refine h v' w' ?_ h3 h5
  unfold Own
  rw [List.flatMap_append,List.length_append,← hn]
  exact h2
theorem wpList_append {ops : Array Oper} {rest : List Oper} {o : Oper} {a : Act} {Q : Exit → Act → World → Prop} (w : World) (hgd : o.guard = none) (s x : Operand)
  (ho : o.op = .call { callee := .builtin .append,args := #[s,x],argTypes := #[74,74] })
  (B : Nat) (v : Value) (xs : List T) (hs : a.eval s = v) (hown : Own w B v xs)
  (ao : Option Addr) (n cap : Nat) (zs : List T) (hx : a.eval x = .slice ao n cap) (hn : n = zs.length) (hnil : ao = none → cap = 0) (hsrc : Seg w ao zs) (hl : (xs.length + n) * 48 ≤ 140737488355328) (hb : B ≤ w.heap.size)
  (h : ∀ v' w1,Own w1 B v' (xs ++ zs) → w.grownBy w1 v.ownBlock → (v'.ownBlock = v.ownBlock ∨ v'.ownBlock = some w.heap.size) → wpList Tryz.prog ops Q rest (a.put o.dst v') w1) : wpList Tryz.prog ops Q (o :: rest) a w :=
 wpList_plain hgd fun _ hK => wp_append w s x ho B v xs hs hown ao n cap zs hx hn hnil hsrc hl hb fun v' w1 h1 h2 h3 => hK _ _ (h v' w1 h1 h2 h3)
theorem own_alloc {w : World} {B : Nat} {v : Value} {xs : List T} (h : Own w B v xs) (o : Obj) : Own (w.alloc o) B v xs := World.ownsRow.alloc h o
theorem own_drew {w : World} {B : Nat} {v : Value} {M : List T} (h : Own w B v M) : Own w.drew B v M := h
theorem own_below {w u : World} {B : Nat} {v : Value} {xs : List T} (h : Own w B v xs) (k : Below w.heap.size w u) : Own u B v xs := by
 obtain ⟨h1,h2⟩ := h
 refine ⟨h1,?_⟩
 rcases h2 with h2 | ⟨g,cap,cur,h',hb,hg,h3⟩
 · exact .inl h2
 ·
  refine .inr ⟨g,cap,cur,h',hb,?_,h3⟩
  have hl : g < w.heap.size := by
   obtain ⟨hl,_⟩ := Array.getElem?_eq_some_iff.1 hg
   exact hl
  rw [k.block g hl]
  exact hg
def block (r : T) : Obj := .cells #[.string r.name,.slice r.bytes.ao r.bytes.n r.bytes.cap,.int .i64 r.kept] 90 (0,0)
theorem seg_block {X : World} {g : Nat} {r : T} (h : X.heap[g]? = some (block r)) : Seg X (some ⟨g,0,none⟩) [r] := by
 refine .inr ⟨g,0,rfl,fun k hk => ?_⟩
 obtain rfl : k = 0 := by simpa using hk
 unfold block at h
 refine ⟨?_,?_,?_⟩
 all_goals rw [cell_of_row X g _ _ _ _ h]
 all_goals rfl
end Go.Proofs.YtmhmajoghbgcfaaGreatDoor.Fl
namespace Go.Proofs.YtmhmajoghbgcfaaGreatDoor.Fl
open Go.RowKit
open Mem
def zeros (n : Nat) : Array Value := ((List.replicate n zero).flatMap rv).toArray
theorem sizeZ : (Tryz.prog.info? 90).map (·.size) = some 3 := by kernel_rfl
theorem made (n : Nat) : madeCells zeroV.cells (n * 3) = zeros n := by
 apply Array.ext_getElem?
 intro j
 by_cases hj : j < n * 3
 ·
  obtain ⟨k,p,rfl,hp⟩ : ∃ k p,j = k * 3 + p ∧ p < 3 := ⟨j / 3,j % 3,by omega,by omega⟩
  have hk : k < n := by omega
  have hz : (zeros n)[k * 3 + p]? = (rv zero)[p]? := by
   unfold zeros
   rw [List.getElem?_toArray,flat_at (List.replicate n zero) k p (by simpa using hk) hp,List.getElem_replicate]
  rw [hz]
  have e : (k * 3 + p) % 3 = p := by omega
  have hp' : p = 0 ∨ p = 1 ∨ p = 2 := by omega
  unfold madeCells
  rw [Array.getElem?_map,Array.getElem?_range,if_pos hj]
  simp only [Option.map_some]
  rw [show zeroV.cells.size = 3 from rfl,e]
  rcases hp' with rfl | rfl | rfl <;> rfl
 ·
  rw [Array.getElem?_eq_none (by rw [size_madeCells]; omega),Array.getElem?_eq_none]
  unfold zeros
  rw [List.size_toArray,flat_len,List.length_replicate]
  omega
theorem set_right {a : T} (X : List Value) (k p : Nat) (v : Value) : (rv a ++ X).set ((k + 1) * 3 + p) v = rv a ++ X.set (k * 3 + p) v := by
 rw [List.set_append_right _ _ (by rw [rv_len]; omega),rv_len,show (k + 1) * 3 + p - 3 = k * 3 + p by omega]
theorem flat_set : ∀ (ts : List T) (k : Nat) (r : T),k < ts.length → (ts.set k r).flatMap rv = ((((ts.flatMap rv).set (k * 3) (.string r.name)).set (k * 3 + 1) (.slice r.bytes.ao r.bytes.n r.bytes.cap)).set (k * 3 + 2) (.int .i64 r.kept)) := by
 intro ts
 induction ts with
 | nil =>
  intro k r h
  simp at h
 | cons a l ih =>
 intro k r h
 cases k with
 | zero =>
  rw [List.set_cons_zero,List.flatMap_cons,List.flatMap_cons]
  simp only [rv,Nat.zero_mul,Nat.zero_add,List.cons_append,List.nil_append,List.set_cons_zero,List.set_cons_succ]
 | succ k =>
  have ih := ih k r (by simpa using h)
  have e0 := fun (X : List Value) (v : Value) => set_right (a := a) X k 0 v
  simp only [Nat.add_zero] at e0
  rw [List.set_cons_succ,List.flatMap_cons,ih,List.flatMap_cons,e0,set_right,set_right]
theorem own_store {w : World} {B g n cap : Nat} {M : List T} (h : Own w B (.slice (some ⟨g,0,none⟩) n cap) M) (k : Nat) (hk : k < M.length) (r : T) :
  Own (((w.setCell ⟨g,k * 3,none⟩ (.string r.name)).setCell ⟨g,k * 3 + 1,none⟩ (.slice r.bytes.ao r.bytes.n r.bytes.cap)).setCell ⟨g,k * 3 + 2,none⟩ (.int .i64 r.kept)) B (.slice (some ⟨g,0,none⟩) n cap) (M.set k r) := by
 rcases h.2 with ⟨h',_⟩ | ⟨g',cap',cur,h',hb,hg,hnc,hcm,hcs,htake⟩
 · cases h'
 ·
  simp only [Value.slice.injEq,Option.some.injEq,Addr.mk.injEq,and_true] at h'
  obtain ⟨e1,e2,e3⟩ := h'
  subst e1 e3
  have h1 := heap_setCell_same _ g (k * 3) _ _ (.string r.name) hg
  have h2 := heap_setCell_same _ g (k * 3 + 1) _ _ (.slice r.bytes.ao r.bytes.n r.bytes.cap) h1
  have h3 := heap_setCell_same _ g (k * 3 + 2) _ _ (.int .i64 r.kept) h2
  refine ⟨by rw [flat_len],.inr ⟨g,cap,_,by rw [List.length_set,e2],hb,h3,by rw [List.length_set]; exact hnc,hcm,by simpa using hcs,?_⟩⟩
  rw [List.length_set,flat_set M k r hk]
  simp only [Array.toList_setIfInBounds]
  rw [← htake]
  simp only [List.take_set]
theorem own_at {w : World} {B g n cap : Nat} {M : List T} (h : Own w B (.slice (some ⟨g,0,none⟩) n cap) M) (k : Nat) (hk : k < M.length) : At w g (k * 3) M[k] ∧ (∀ o,w.frozen? ⟨g,o,none⟩ = false) ∧ B ≤ g := by
 rcases h.2 with ⟨h',_⟩ | ⟨g',cap',cur,h',hb,hg,hnc,hcm,hcs,htake⟩
 · cases h'
 ·
  simp only [Value.slice.injEq,Option.some.injEq,Addr.mk.injEq,and_true] at h'
  obtain ⟨e1,e2,e3⟩ := h'
  subst e1 e3
  have hcell : ∀ p,p < 3 → w.cell? ⟨g,k * 3 + p,none⟩ = (rv M[k])[p]? := by
   intro p hp
   rw [cell_of_row w g _ _ _ _ hg,← flat_at M k p hk hp,← htake,List.getElem?_take_of_lt (by omega)]
   simp
  exact ⟨⟨hcell 0 (by omega),hcell 1 (by omega),hcell 2 (by omega)⟩,fun o => frozen_of_row w g o _ _ hg,hb⟩
theorem flat_put (r : T) (p : Nat) (x : Value) (hp : p < 3) : ∀ (M : List T) (k : Nat) (hk : k < M.length),rv r = (rv M[k]).set p x → (M.set k r).flatMap rv = (M.flatMap rv).set (k * 3 + p) x
 | a :: l,0,_,h => by
  have h' : rv r = (rv a).set p x := h
  rw [List.set_cons_zero,List.flatMap_cons,List.flatMap_cons,Nat.zero_mul,Nat.zero_add,List.set_append_left _ _ (by rw [rv_len]; exact hp),h']
 | a :: l,k + 1,hk,h => by
  have ih := flat_put r p x hp l k (by simpa using hk) (by simpa using h)
  rw [List.set_cons_succ,List.flatMap_cons,List.flatMap_cons,List.set_append_right _ _ (by rw [rv_len]; omega),rv_len,show (k + 1) * 3 + p - 3 = k * 3 + p by omega,ih]
theorem own_put {w : World} {B g n cap : Nat} {M : List T} (h : Own w B (.slice (some ⟨g,0,none⟩) n cap) M) (k p : Nat) (hk : k < M.length) (hp : p < 3) (x : Value) (r : T) (hr : rv r = (rv M[k]).set p x) :
  Own (w.setCell ⟨g,k * 3 + p,none⟩ x) B (.slice (some ⟨g,0,none⟩) n cap) (M.set k r) := by
 rcases h.2 with ⟨h',_⟩ | ⟨g',cap',cur,h',hb,hg,hnc,hcm,hcs,htake⟩
 · cases h'
 ·
  simp only [Value.slice.injEq,Option.some.injEq,Addr.mk.injEq,and_true] at h'
  obtain ⟨e1,e2,e3⟩ := h'
  subst e1 e3
  have h1 := heap_setCell_same _ g (k * 3 + p) _ _ x hg
  refine ⟨by rw [flat_len],.inr ⟨g,cap,_,by rw [List.length_set,e2],hb,h1,by rw [List.length_set]; exact hnc,hcm,by simpa using hcs,?_⟩⟩
  rw [List.length_set,flat_put r p x hp M k hk hr]
  simp only [Array.toList_setIfInBounds]
  rw [← htake]
  simp only [List.take_set]
end Go.Proofs.YtmhmajoghbgcfaaGreatDoor.Fl
namespace Go.Proofs.YtmhmajoghbgcfaaGreatDoor.Dk
open Go.RowKit
open Mem
def sl (s : Sl) : Value := .slice s.ao s.n s.cap
def Box (w : World) (p : Nat) (v : Sl) (off armed : Bool) (L : Int) : Prop := w.heap[p]? = some (.cells #[.slice v.ao v.n v.cap,.bool off,.bool armed,.int .i64 L] 76 (0,0))
theorem Box.lt {w : World} {p : Nat} {v : Sl} {off armed : Bool} {L : Int} (h : Box w p v off armed L) : p < w.heap.size := by
 obtain ⟨h,_⟩ := Array.getElem?_eq_some_iff.1 h
 exact h
theorem Box.cells {w : World} {p : Nat} {v : Sl} {off armed : Bool} {L : Int} (h : Box w p v off armed L) : w.cell? ⟨p,0,none⟩ = some (.slice v.ao v.n v.cap) ∧ w.cell? ⟨p,1,none⟩ = some (.bool off) ∧ w.cell? ⟨p,2,none⟩ = some (.bool armed) ∧ w.cell? ⟨p,3,none⟩ = some (.int .i64 L) := by
 refine ⟨?_,?_,?_,?_⟩
 all_goals rw [cell_of_row w p _ _ _ _ h]
 all_goals rfl
theorem Box.frozen {w : World} {p : Nat} {v : Sl} {off armed : Bool} {L : Int} (h : Box w p v off armed L) (k : Nat) : w.frozen? ⟨p,k,none⟩ = false := frozen_of_row w p k _ _ h
theorem Box.set {w : World} {p : Nat} {v : Sl} {off armed : Bool} {L : Int} (h : Box w p v off armed L) (i : Nat) (x : Value) : (w.setCell ⟨p,i,none⟩ x).heap[p]? = some (.cells (#[.slice v.ao v.n v.cap,.bool off,.bool armed,.int .i64 L].setIfInBounds i x) 76 (0,0)) := heap_setCell_same w p i _ _ x h
structure EachF (w : World) (rs : List Fl.T) (fs : List F) : Prop where
 len : rs.length = fs.length
 name : ∀ i (h : i < rs.length),rs[i].name = (fs[i]'(len ▸ h)).name
 kept : ∀ i (h : i < rs.length),rs[i].kept = ((fs[i]'(len ▸ h)).kept : Int)
 own : ∀ i (h : i < rs.length),By.Own w 0 (sl rs[i].bytes) (fs[i]'(len ▸ h)).bs
structure At (P : Nat → Prop) (w : World) (p : Nat) (d : D) (v : Sl) (L : Int) (rs : List Fl.T) : Prop where
 box : Box w p v d.off (decide (0 ≤ d.left)) L
 arm : 0 ≤ d.left → L = d.left
 rows : Fl.Own w 0 (sl v) rs
 each : EachF w rs d.fs
 pp : P p
 pv : ∀ b,(sl v).ownBlock = some b → P b ∧ b ≠ p
 pb : ∀ i (h : i < rs.length) b,(sl rs[i].bytes).ownBlock = some b → P b ∧ b ≠ p ∧ (sl v).ownBlock ≠ some b
 ap : ∀ i j (hi : i < rs.length) (hj : j < rs.length),i < j → ∀ b,(sl rs[i].bytes).ownBlock = some b → (sl rs[j].bytes).ownBlock ≠ some b
 ok : Ok d
 few : d.fs.length ≤ 1000
def Dsk (P : Nat → Prop) (w : World) (p : Nat) (d : D) : Prop := ∃ v L rs,At P w p d v L rs
section
variable {P Q : Nat → Prop} {w u : World} {p : Nat} {d : D} {v : Sl} {L : Int} {rs : List Fl.T}
theorem EachF.keep {fs : List F} (h : EachF w rs fs) (k : ∀ i (hi : i < rs.length) g,(sl rs[i].bytes).ownBlock = some g → u.heap[g]? = w.heap[g]?) : EachF u rs fs := ⟨h.len,h.name,h.kept,fun i hi => rows_keep (h.own i hi) (k i hi)⟩
theorem EachF.short {fs : List F} (h : EachF w rs fs) (hn : ∀ f ∈ fs,f.name.size ≤ 24) (hk : ∀ f ∈ fs,f.kept ≤ 4194304) : ∀ r ∈ rs,Fl.Short r := by
 intro r hr
 obtain ⟨i,hi,rfl⟩ := List.getElem_of_mem hr
 have hf : i < fs.length := h.len ▸ hi
 have h1 := hn _ (List.getElem_mem hf)
 have h2 := hk _ (List.getElem_mem hf)
 refine ⟨by rw [h.name i hi]; omega,?_⟩
 rw [h.kept i hi]
 exact ⟨by omega,by omega⟩
theorem At.keep (h : At P w p d v L rs) (k : UpdQ Q w u) (hQ : ∀ b,P b → ¬ Q b) : At P u p d v L rs := by
 refine ⟨(k.block p h.box.lt (hQ p h.pp)).trans h.box,h.arm,k.rows h.rows fun b e => hQ b (h.pv b e).1,h.each.keep fun i hi g e => k.block g (World.ownsRow.lt (h.each.own i hi) g e).2 (hQ g (h.pb i hi g e).1),h.pp,h.pv,h.pb,h.ap,h.ok,h.few⟩
theorem At.mono (h : At P w p d v L rs) (k : ∀ b,P b → Q b) : At Q w p d v L rs := ⟨h.box,h.arm,h.rows,h.each,k _ h.pp,fun b e => ⟨k b (h.pv b e).1,(h.pv b e).2⟩,fun i hi b e => ⟨k b (h.pb i hi b e).1,(h.pb i hi b e).2⟩,h.ap,h.ok,h.few⟩
theorem At.below (h : At P w p d v L rs) (k : Below w.heap.size w u) : At P u p d v L rs :=
 h.keep (UpdQ.of (Q := fun _ => False) k) fun _ _ z => z
theorem At.lt (h : At P w p d v L rs) : At (fun b => P b ∧ b < w.heap.size) w p d v L rs :=
 ⟨h.box,h.arm,h.rows,h.each,⟨h.pp,h.box.lt⟩,fun b e => ⟨⟨(h.pv b e).1,(World.ownsRow.lt h.rows b e).2⟩,(h.pv b e).2⟩,fun i hi b e => ⟨⟨(h.pb i hi b e).1,(World.ownsRow.lt (h.each.own i hi) b e).2⟩,(h.pb i hi b e).2⟩,h.ap,h.ok,h.few⟩
theorem At.shorts (h : At P w p d v L rs) : ∀ r ∈ rs,Fl.Short r := h.each.short h.ok.names fun f hf => by
 have h1 := h.ok.kept f hf
 have h2 := total_mem hf
 have h3 := h.ok.room
 omega
theorem At.ls (h : At P w p d v L rs) : Fl.Ls w v.ao v.n v.cap rs := by
 obtain ⟨ao,cap,e,l,_⟩ := Fl.own_ls h.rows h.shorts
 unfold sl at e
 simp only [Value.slice.injEq] at e
 rw [e.1,e.2.1,e.2.2]
 exact l
theorem At.n (h : At P w p d v L rs) : v.n = d.fs.length ∧ v.n ≤ v.cap ∧ v.cap ≤ 9223372036854775807 ∧ v.n = rs.length := by
 have l := h.ls
 exact ⟨l.len.trans h.each.len,l.fits,l.reach,l.len⟩
theorem Dsk.keep (h : Dsk P w p d) (k : UpdQ Q w u) (hQ : ∀ b,P b → ¬ Q b) : Dsk P u p d := by
 obtain ⟨v,L,rs,h⟩ := h
 exact ⟨v,L,rs,h.keep k hQ⟩
theorem Dsk.mono (h : Dsk P w p d) (k : ∀ b,P b → Q b) : Dsk Q w p d := by
 obtain ⟨v,L,rs,h⟩ := h
 exact ⟨v,L,rs,h.mono k⟩
theorem Dsk.below (h : Dsk P w p d) (k : Below w.heap.size w u) : Dsk P u p d := by
 obtain ⟨v,L,rs,h⟩ := h
 exact ⟨v,L,rs,h.below k⟩
theorem Dsk.lt (h : Dsk P w p d) : Dsk (fun b => P b ∧ b < w.heap.size) w p d := by
 obtain ⟨v,L,rs,h⟩ := h
 exact ⟨v,L,rs,h.lt⟩
theorem At.away (h : At P w p d v L rs) (i : Nat) (x : Value) : Fl.Own (w.setCell ⟨p,i,none⟩ x) 0 (sl v) rs ∧ EachF (w.setCell ⟨p,i,none⟩ x) rs d.fs := by
 have k : UpdQ (fun b => b = p) w (w.setCell ⟨p,i,none⟩ x) := UpdQ.set (Q := fun b => b = p) w rfl i x
 exact ⟨k.rows h.rows fun b e z => (h.pv b e).2 z,h.each.keep fun j hj g e => k.block g (World.ownsRow.lt (h.each.own j hj) g e).2 (h.pb j hj g e).2.1⟩
theorem At.setOff (h : At P w p d v L rs) (b : Bool) : At P (w.setCell ⟨p,1,none⟩ (.bool b)) p ⟨d.fs,b,d.left⟩ v L rs := by
 obtain ⟨h1,h2⟩ := h.away 1 (.bool b)
 exact ⟨(h.box.set 1 (.bool b)).trans rfl,h.arm,h1,h2,h.pp,h.pv,h.pb,h.ap,⟨h.ok.sorted,h.ok.kept,h.ok.room,h.ok.names,h.ok.left⟩,h.few⟩
theorem At.setLeft (h : At P w p d v L rs) {x : Int} (h0 : 0 ≤ d.left) (hx : 0 ≤ x ∧ x ≤ 9223372036854775807) : At P (w.setCell ⟨p,3,none⟩ (.int .i64 x)) p ⟨d.fs,d.off,x⟩ v x rs := by
 obtain ⟨h1,h2⟩ := h.away 3 (.int .i64 x)
 refine ⟨(h.box.set 3 (.int .i64 x)).trans ?_,fun _ => rfl,h1,h2,h.pp,h.pv,h.pb,h.ap,⟨h.ok.sorted,h.ok.kept,h.ok.room,h.ok.names,⟨by show -1 ≤ x; omega,hx.2⟩⟩,h.few⟩
 have e1 : decide (0 ≤ d.left) = true := decide_eq_true h0
 have e2 : decide (0 ≤ x) = true := decide_eq_true hx.1
 show _ = some (Obj.cells #[_,_,.bool (decide (0 ≤ x)),_] _ _)
 rw [e1,e2]
 rfl
end
end Go.Proofs.YtmhmajoghbgcfaaGreatDoor.Dk
namespace Go.Proofs.YtmhmajoghbgcfaaGreatDoor
open Go.ChangeShapes Go.WideShapes Go.ChangeAt Go.RowKit
theorem own : ownKnob Tryz.prog.godebug = none := by kernel_rfl
end Go.Proofs.YtmhmajoghbgcfaaGreatDoor
set_option maxRecDepth 100000
namespace Go.Proofs.YtmhmajoghbgcfaaGreatDoor
open Go.RowKit
open Mem Dk
theorem Dk.name_no {s : ByteArray} (h : s.size < 1 ∨ 24 < s.size) : nameOk s = false := by
 unfold nameOk
 rw [decide_eq_false (by omega),Bool.false_and]
theorem Dk.txt_get (s : ByteArray) (k : Nat) (h : k < s.size) : (txt s)[k]? = some s[k] := by
 unfold txt
 rw [Array.getElem?_toList]
 exact Array.getElem?_eq_getElem h
theorem Dk.txt_take (s : ByteArray) (k : Nat) (h : k < s.size) : (txt s).take (k + 1) = (txt s).take k ++ [s[k]] := by
 have hl : k < (txt s).length := by unfold txt; simpa using h
 have e : (txt s)[k] = s[k] := Option.some.inj ((List.getElem?_eq_getElem hl).symm.trans (Dk.txt_get s k h))
 rw [List.take_succ_eq_append_getElem hl,e]
 rfl
set_option maxHeartbeats 1000000 in
theorem dk_named (s : ByteArray) (w : World) (hs : s.size ≤ 9223372036854775807) :
  Calls Tryz.prog 67 #[.string s] w fun e w' => e = .returned (.bool (nameOk s)) ∧ w' = w := by
 by_cases h1 : s.size < 1
 ·
  have HN := Lib.hid (Dk.name_no (.inl h1))
  go_enter Tryz.func67,Tryz.ntmps67
  go_wp2
  go_ret
  exact ⟨ret_bool HN.out.symm,rfl⟩
 by_cases h2 : 24 < s.size
 ·
  have HN := Lib.hid (Dk.name_no (.inr h2))
  go_enter Tryz.func67,Tryz.ntmps67
  go_wp2
  go_ret
  exact ⟨ret_bool HN.out.symm,rfl⟩
 have HR : Hid (nameOk s = (txt s).all fun c => decide (33 ≤ c.toNat ∧ c.toNat ≤ 126)) := Lib.hid (by
  unfold nameOk
  rw [decide_eq_true (by omega),Bool.true_and])
 go_enter Tryz.func67,Tryz.ntmps67
 go_wp2
 go_loop [3,14] (fun _ i => ∃ k : Nat,k ≤ s.size ∧ i = .int .i64 k ∧ Hid (((txt s).take k).all (fun c => decide (33 ≤ c.toNat ∧ c.toNat ≤ 126)) = true)) (fun _ i => s.size - (intOf i).toNat)
 case atStart => exact ⟨0,Nat.zero_le _,rfl,Lib.hid rfl⟩
 case round =>
  obtain ⟨k,hk,rfl,HA⟩ := hrel
  by_cases hlt : k < s.size
  ·
   have HT := Lib.hid (Dk.txt_take s k hlt)
   have HG := Lib.hid (Dk.txt_get s k hlt)
   have HNo : Hid (¬ (33 ≤ s[k].toNat ∧ s[k].toNat ≤ 126) → nameOk s = false) := Lib.hid fun z => by
    rw [HR.out,List.all_eq_false]
    exact ⟨s[k],List.mem_of_getElem? HG.out,by simpa using z⟩
   by_cases a1 : (s[k].toNat : Int) < 33
   ·
    have HF := Lib.hid (HNo.out (by omega))
    go_wp2
    go_ret
    exact ⟨ret_bool HF.out.symm,rfl⟩
   ·
    by_cases a2 : (126 : Int) < (s[k].toNat : Int)
    ·
     have HF := Lib.hid (HNo.out (by omega))
     go_wp2
     go_ret
     exact ⟨ret_bool HF.out.symm,rfl⟩
    ·
     have HF : Hid (((txt s).take (k + 1)).all (fun c => decide (33 ≤ c.toNat ∧ c.toNat ≤ 126)) = true) := Lib.hid (by
      rw [HT.out,List.all_append,HA.out,Bool.true_and]
      simp only [List.all_cons,List.all_nil,Bool.and_true]
      exact decide_eq_true (by omega))
     go_wp2
     go_round
     case rel => exact ⟨k + 1,by omega,by go_num,HF⟩
     case measure => simp [intOf]; omega
  ·
   have HF : Hid (nameOk s = true) := Lib.hid (by
    rw [HR.out,← HA.out,List.take_of_length_le (by unfold txt; simp; omega)])
   go_wp2
   go_ret
   exact ⟨ret_bool HF.out.symm,rfl⟩
section
variable {P : Nat → Prop} {w : World} {p : Nat} {d : D} {v : Sl} {L : Int} {rs : List Fl.T}
def Dk.SpendE (P : Nat → Prop) (w : World) (p : Nat) (d : D) (v : Sl) (rs : List Fl.T) (e : Ending) (w' : World) : Prop :=
 ((d.left ≠ 0 ∧ e = .returned (.bool true) ∧ ∃ L',At P w' p (spent d) v L' rs) ∨ (d.left = 0 ∧ e = .returned (.bool false) ∧ ∃ L',At P w' p (down d) v L' rs)) ∧ UpdQ (fun b => b = p) w w'
theorem dk_spend (h : At P w p d v L rs) : Calls Tryz.prog 69 #[.pointer (some ⟨p,0,none⟩)] w (Dk.SpendE P w p d v rs) := by
 have HA := Lib.hid h
 obtain ⟨c0,c1,c2,c3⟩ := h.box.cells
 have f1 := h.box.frozen 1
 have f3 := h.box.frozen 3
 have hl := h.ok.left
 by_cases h0 : 0 ≤ d.left
 ·
  have hL := h.arm h0
  rw [decide_eq_true h0] at c2
  rw [hL] at c3
  by_cases h1 : d.left = 0
  ·
   have HO := Lib.hid (h.setOff true)
   rw [h1] at c3
   have HZ := Lib.hid h1
   clear h hL h1 h0 hl
   go_enter Tryz.func69,Tryz.ntmps69
   go_wp2
   go_ret
   exact ⟨.inr ⟨HZ.out,rfl,L,HO.out⟩,UpdQ.set (Q := fun b => b = p) w rfl _ _⟩
  ·
   have hq : (d.left == 0) = false := beq_eq_false_iff_ne.2 h1
   have HO : Hid (At P (w.setCell ⟨p,3,none⟩ (.int .i64 (d.left - 1))) p (spent d) v (d.left - 1) rs) := Lib.hid (by
    have h2 := h.setLeft (x := d.left - 1) h0 ⟨by omega,by omega⟩
    have e : spent d = ⟨d.fs,d.off,d.left - 1⟩ := by
     unfold spent dec
     rw [if_pos (by omega)]
    rw [e]
    exact h2)
   have HZ := Lib.hid h1
   obtain ⟨hl1,hl2⟩ := hl
   obtain ⟨lf,hlf⟩ : ∃ lf,d.left = lf := ⟨_,rfl⟩
   rw [hlf] at c3 HO hq hl1 hl2 h0
   clear h hL h1 hlf
   go_enter Tryz.func69,Tryz.ntmps69
   go_wp2
   go_ret
   exact ⟨.inl ⟨HZ.out,rfl,_,HO.out⟩,UpdQ.set (Q := fun b => b = p) w rfl _ _⟩
 ·
  rw [decide_eq_false h0] at c2
  have HZ : Hid (d.left ≠ 0) := Lib.hid (by omega)
  have HS : Hid (spent d = d) := Lib.hid (by
   unfold spent dec
   rw [if_neg (by omega)])
  clear h h0 hl
  go_enter Tryz.func69,Tryz.ntmps69
  go_wp2
  go_ret
  exact ⟨.inl ⟨HZ.out,rfl,L,by rw [HS.out]; exact HA.out⟩,UpdQ.refl _ _⟩
theorem dk_arm (n : Int) (hn : Fit n) (h : At P w p d v L rs) : Calls Tryz.prog 22 #[.pointer (some ⟨p,0,none⟩),.int .i64 n] w fun e w' => e = .returned (.tuple #[]) ∧ At P w' p (armD d n) v n rs ∧ UpdQ (fun b => b = p) w w' := by
 obtain ⟨c0,c1,c2,c3⟩ := h.box.cells
 have f2 := h.box.frozen 2
 have f3 := h.box.frozen 3
 have HO : Hid (∀ b,b = decide (0 ≤ n) → At P ((w.setCell ⟨p,2,none⟩ (.bool b)).setCell ⟨p,3,none⟩ (.int .i64 n)) p (armD d n) v n rs) := Lib.hid fun b hb => by
  have k : UpdQ (fun b => b = p) w ((w.setCell ⟨p,2,none⟩ (.bool b)).setCell ⟨p,3,none⟩ (.int .i64 n)) := (UpdQ.set (Q := fun b => b = p) w rfl 2 _).trans (UpdQ.set (Q := fun b => b = p) _ rfl 3 _)
  have e1 : (w.setCell ⟨p,2,none⟩ (.bool b)).heap[p]? = some (.cells #[.slice v.ao v.n v.cap,.bool d.off,.bool b,.int .i64 L] 76 (0,0)) := (h.box.set 2 (.bool b)).trans rfl
  have e2 := heap_setCell_same _ p 3 _ _ (.int .i64 n) e1
  have e3 : decide (0 ≤ (armD d n).left) = b := by
   rw [hb]
   unfold armD
   dsimp only
   by_cases hneg : n < 0
   · rw [if_pos hneg,decide_eq_false (by omega),decide_eq_false (by omega)]
   · rw [if_neg hneg]
  refine ⟨?_,fun z => ?_,k.rows h.rows fun b e z => (h.pv b e).2 z,h.each.keep fun j hj g e => k.block g (World.ownsRow.lt (h.each.own j hj) g e).2 (h.pb j hj g e).2.1,h.pp,h.pv,h.pb,h.ap,⟨h.ok.sorted,h.ok.kept,h.ok.room,h.ok.names,?_⟩,h.few⟩
  ·
   unfold Box
   rw [e3]
   exact e2.trans rfl
  ·
   unfold armD at z ⊢
   dsimp only at z ⊢
   by_cases hneg : n < 0
   ·
    rw [if_pos hneg] at z
    omega
   · rw [if_neg hneg]
  ·
   unfold armD
   dsimp only
   unfold Fit at hn
   split <;> omega
 have HU : Hid (∀ b,UpdQ (fun b => b = p) w ((w.setCell ⟨p,2,none⟩ (.bool b)).setCell ⟨p,3,none⟩ (.int .i64 n))) := Lib.hid fun b => (UpdQ.set (Q := fun b => b = p) w rfl 2 _).trans (UpdQ.set (Q := fun b => b = p) _ rfl 3 _)
 by_cases h0 : 0 ≤ n
 ·
  have hd : decide (0 ≤ n) = true := decide_eq_true h0
  clear h
  go_enter Tryz.func22,Tryz.ntmps22
  go_wp2
  go_end0
  exact ⟨rfl,HO.out _ hd.symm,HU.out _⟩
 ·
  have hd : decide (0 ≤ n) = false := decide_eq_false h0
  clear h
  go_enter Tryz.func22,Tryz.ntmps22
  go_wp2
  go_end0
  exact ⟨rfl,HO.out _ hd.symm,HU.out _⟩
end
theorem dk_new (w0 w : World) (hw : Below w0.heap.size w0 w) : Calls Tryz.prog 9 #[] w fun e w' => ∃ p,e = .returned (.pointer (some ⟨p,0,none⟩)) ∧ Dsk (fun b => w.heap.size ≤ b) w' p Dk.new ∧ Below w0.heap.size w0 w' := by
 have HW := Lib.hid hw
 clear hw
 go_enter Tryz.func9,Tryz.ntmps9
 go_wp2
 go_ret
 refine ⟨_,rfl,⟨⟨none,0,0⟩,0,[],?_⟩,below_box HW.out _⟩
 refine ⟨heap_alloc_new w _,fun z => ?_,Fl.own_nil _ _,⟨rfl,fun i h => absurd h (Nat.not_lt_zero _),fun i h => absurd h (Nat.not_lt_zero _),fun i h => absurd h (Nat.not_lt_zero _)⟩,Nat.le_refl _,fun b e => (by cases e),fun i h => absurd h (Nat.not_lt_zero _),fun i j h => absurd h (Nat.not_lt_zero _),ok_new,by show (0 : Nat) ≤ _; omega⟩
 exact absurd z (by show ¬ (0 : Int) ≤ -1; omega)
theorem Dk.total_take {fs : List F} {k : Nat} (h : k < fs.length) : total (fs.take (k + 1)) = total (fs.take k) + fs[k].bs.length := by
 rw [List.take_succ_eq_append_getElem h,total_app,total,total,Nat.add_zero]
theorem Dk.total_take_le (fs : List F) (k : Nat) : total (fs.take k) ≤ total fs := by
 conv => rhs; rw [← List.take_append_drop k fs]
 rw [total_app]
 omega
theorem Dk.own_n {w : World} {B : Nat} {s : Sl} {xs : List UInt8} (h : By.Own w B (sl s) xs) : s.n = xs.length ∧ s.n ≤ s.cap ∧ s.cap ≤ 9223372036854775807 := by
 obtain ⟨ao,cap,e,l,_⟩ := By.own_ls h
 unfold sl at e
 simp only [Value.slice.injEq] at e
 rw [e.2.1,e.2.2]
 exact ⟨rfl,l.fits,l.reach⟩
set_option maxHeartbeats 1000000 in
theorem dk_total {P : Nat → Prop} {w : World} {p : Nat} {d : D} {v : Sl} {L : Int} {rs : List Fl.T} (h : At P w p d v L rs) :
  Calls Tryz.prog 68 #[.pointer (some ⟨p,0,none⟩)] w fun e w' => e = .returned (.int .i64 (total d.fs : Nat)) ∧ Below w.heap.size w w' := by
 have HA := Lib.hid h
 have HL := Lib.hid h.ls
 obtain ⟨c0,c1,c2,c3⟩ := h.box.cells
 obtain ⟨n1,n2,n3,n4⟩ := h.n
 have HN := Lib.hid n4
 have HN1 := Lib.hid n1
 have HRm := Lib.hid h.ok.room
 obtain ⟨ao,n,cap⟩ := v
 simp only at c0 n2 n3 HN HN1
 have hfew : n ≤ 1000 := by
  have h1 := h.few
  have h2 := HN1.out
  omega
 clear h n1 n4
 go_enter Tryz.func68,Tryz.ntmps68
 go_wp2_with fail
 clear c0 c1 c2 c3
 go_loopw [3,5,11] (fun t _ j wr => ∃ k m : Nat,k ≤ n ∧ m ≤ 4194304 ∧ j = .int .i64 k ∧ t = .int .i64 m ∧ Hid (total (d.fs.take k) = m) ∧ Hid (Below w.heap.size w wr)) (fun _ _ j _ => n - (intOf j).toNat)
 case atStart => exact ⟨0,0,by omega,by omega,rfl,rfl,Lib.hid rfl,Lib.hid (Below.refl _ _)⟩
 case round =>
  rename World => wz
  obtain ⟨k,m,hk,hm,rfl,rfl,HT,HB⟩ := hrel
  by_cases hlt : k < n
  ·
   obtain ⟨b,off,rfl⟩ := HL.out.at (by omega)
   have hkr : k < rs.length := HN.out ▸ hlt
   have hkf : k < d.fs.length := HA.out.each.len ▸ hkr
   have hrow := (HL.out.row k hkr).below HB.out
   have HS := Lib.hid (Dk.total_take hkf)
   have ho := Dk.own_n (HA.out.each.own k hkr)
   have HLe := Lib.hid (Dk.total_take_le d.fs (k + 1))
   obtain ⟨r,hr⟩ : ∃ r,rs[k] = r := ⟨_,rfl⟩
   rw [hr] at hrow ho
   obtain ⟨o1,o2,o3⟩ := ho
   have HO1 := Lib.hid o1
   have hbn : m + r.bytes.n ≤ 4194304 := by
    have h1 := HS.out
    have h2 := HT.out
    have h3 := HLe.out
    have h4 := HRm.out
    omega
   have HM : Hid (total (d.fs.take (k + 1)) = m + r.bytes.n) := Lib.hid (by rw [HS.out,HT.out,o1])
   clear hr o1
   obtain ⟨g0,g1,g2⟩ := hrow
   obtain ⟨W,hW,hbW,hA⟩ := Fl.boxed1 wz r
   have HBW := Lib.hid (bchain HB.out hbW)
   unfold Fl.C at hA
   obtain ⟨a0,a1,a2⟩ := hA
   clear hbW
   go_wp2_with fail
   go_roundw
   case rel => exact ⟨k + 1,m + r.bytes.n,by omega,by omega,by go_num,by go_num,HM,HBW⟩
   case measure => simp [intOf]; omega
  ·
   obtain rfl : k = n := by omega
   have HM : Hid (total d.fs = m) := Lib.hid (by
    rw [← HT.out,List.take_of_length_le (by have := HN1.out; omega)])
   go_wp2_with fail
   go_ret
   exact ⟨by rw [HM.out]; rfl,HB.out⟩
end Go.Proofs.YtmhmajoghbgcfaaGreatDoor
namespace Go.Proofs.YtmhmajoghbgcfaaGreatDoor
open Go.RowKit
open Mem Dk
def Dk.cmp (a b : ByteArray) : Int := Lib.compareBytes a.data.toList b.data.toList
theorem Dk.cmp_less : ∀ a b : List UInt8,decide (Lib.compareBytes a b < 0) = Op.bytesLess a b
 | [],[] => rfl
 | [],_ :: _ => rfl
 | _ :: _,[] => rfl
 | a :: x,b :: y => by
  have ih := Dk.cmp_less x y
  unfold Lib.compareBytes Op.bytesLess
  by_cases h : a < b
  ·
   rw [if_pos h,decide_eq_true h]
   rfl
  ·
   rw [if_neg h,decide_eq_false h,Bool.false_or]
   by_cases k : b < a
   ·
    rw [if_pos k]
    have hne : (a == b) = false := beq_eq_false_iff_ne.2 fun e => by subst e; exact UInt8.lt_irrefl a k
    rw [hne]
    rfl
   ·
    rw [if_neg k,ih]
    have he : a = b := UInt8.le_antisymm (UInt8.not_lt.1 k) (UInt8.not_lt.1 h)
    rw [beq_iff_eq.2 he,Bool.true_and]
theorem Dk.cmp_zero : ∀ a b : List UInt8,Lib.compareBytes a b = 0 ↔ a = b
 | [],[] => ⟨fun _ => rfl,fun _ => rfl⟩
 | [],_ :: _ => ⟨fun h => (by cases h),fun h => (by cases h)⟩
 | _ :: _,[] => ⟨fun h => (by cases h),fun h => (by cases h)⟩
 | a :: x,b :: y => by
  have ih := Dk.cmp_zero x y
  unfold Lib.compareBytes
  by_cases h : a < b
  ·
   rw [if_pos h]
   exact ⟨fun z => (by cases z),fun z => (by cases z; exact absurd h (UInt8.lt_irrefl a))⟩
  ·
   rw [if_neg h]
   by_cases k : b < a
   ·
    rw [if_pos k]
    exact ⟨fun z => (by cases z),fun z => (by cases z; exact absurd k (UInt8.lt_irrefl a))⟩
   ·
    rw [if_neg k,ih]
    have he : a = b := UInt8.le_antisymm (UInt8.not_lt.1 k) (UInt8.not_lt.1 h)
    rw [he]
    exact ⟨fun z => (by rw [z]),fun z => (by cases z; rfl)⟩
theorem Dk.cmp_lt (a b : ByteArray) : Dk.cmp a b < 0 ↔ lt a b = true := by
 have h := Dk.cmp_less a.data.toList b.data.toList
 unfold Dk.cmp lt
 rw [← decide_eq_true_iff (p := Lib.compareBytes a.data.toList b.data.toList < 0),h]
 have e : ∀ s : ByteArray,s.toList = s.data.toList := fun s => tl s
 rw [e,e]
theorem Dk.cmp_eq (a b : ByteArray) : Dk.cmp a b = 0 ↔ a = b := by
 unfold Dk.cmp
 rw [Dk.cmp_zero]
 constructor
 ·
  intro h
  cases a
  cases b
  simp only [ByteArray.mk.injEq]
  exact Array.toList_inj.1 h
 ·
  intro h
  rw [h]
theorem dk_order (r : Fl.T) (s : ByteArray) (w0 w : World) (hw : Below w0.heap.size w0 w) : Calls Tryz.prog 112 #[.agg #[.string r.name,.slice r.bytes.ao r.bytes.n r.bytes.cap,.int .i64 r.kept],.string s] w fun e w' => e = .returned (.int .i64 (Dk.cmp r.name s)) ∧ Below w0.heap.size w0 w' := by
 have hcon : ∀ W',Calls Tryz.prog 113 #[.string r.name,.string s] W' fun e w' => e = .returned (.int .i64 (Dk.cmp r.name s)) ∧ w' = W' := fun W' => Tryz.strings_Compare r.name s W'
 have HW := Lib.hid hw
 generalize Dk.cmp r.name s = q at hcon ⊢
 clear hw
 go_enter Tryz.func112,Tryz.ntmps112
 go_wp2_with (go_at_call 113; refine (hcon _).mono ?_; rintro e w' ⟨rfl,rfl⟩)
 go_ret
 exact ⟨rfl,below_box HW.out _⟩
set_option maxHeartbeats 4000000 in
theorem dk_search (rs : List Fl.T) (fs : List F) (s : ByteArray) (ao : Option Addr) (n cap : Nat) (w : World) (hL : Fl.Ls w ao n cap rs) (hl : rs.length = fs.length) (hn : ∀ i (h : i < rs.length),rs[i].name = (fs[i]'(hl ▸ h)).name) (hs : Sorted fs) (hm : n ≤ 1000) :
  Calls Tryz.prog 111 #[.slice ao n cap,.string s,.func (.func 112) #[] #[]] w fun e w' => e = .returned (.tuple #[.int .i64 (spot s fs : Nat),.bool (has s fs)]) ∧ Below w.heap.size w w' := by
 have HL := Lib.hid hL
 have HN := Lib.hid hL.len
 have HNm := Lib.hid hn
 have HSo := Lib.hid hs
 have hcap := hL.reach
 have hfit := hL.fits
 have HSp : Hid (spot s fs ≤ n) := Lib.hid (by have h1 := spot_le s fs; have h2 := hL.len; omega)
 obtain ⟨sp,hsp⟩ : ∃ sp,spot s fs = sp := ⟨_,rfl⟩
 have HSq := Lib.hid hsp
 rw [hsp] at HSp
 clear hL hn hs
 have HIf : Hid (∀ i (hi : i < rs.length),Dk.cmp rs[i].name s < 0 ↔ i < sp) := Lib.hid fun i hi => by
  rw [Dk.cmp_lt,HNm.out i hi,spot_iff s fs HSo.out i (hl ▸ hi),HSq.out]
 have hsn := HSp.out
 clear hsp
 go_enter Tryz.func111,Tryz.ntmps111
 go_wp2_with fail
 go_loopw [9,10,11] (fun a b _ wr => ∃ i j : Nat,i ≤ sp ∧ sp ≤ j ∧ j ≤ n ∧ a = .int .i64 i ∧ b = .int .i64 j ∧ Hid (Below w.heap.size w wr)) (fun a b _ _ => (intOf b).toNat - (intOf a).toNat)
 case atStart => exact ⟨0,n,by omega,by omega,by omega,rfl,rfl,Lib.hid (Below.refl _ _)⟩
 case round =>
  rename World => wz
  obtain ⟨i,j,h1,h2,h3,rfl,rfl,HB⟩ := hrel
  by_cases hij : i < j
  ·
   obtain ⟨h,hh⟩ : ∃ h,(i + j) / 2 = h := ⟨_,rfl⟩
   have hh1 : i ≤ h := by omega
   have hh2 : h < j := by omega
   have hsh : ((i : Int) + (j : Int)) / 2 = (h : Int) := by omega
   obtain ⟨b,off,rfl⟩ := HL.out.at (by omega)
   have hhr : h < rs.length := by have := HN.out; omega
   have hrow := (HL.out.row h hhr).below HB.out
   have hif := HIf.out h hhr
   obtain ⟨r,hr⟩ : ∃ r,rs[h] = r := ⟨_,rfl⟩
   rw [hr] at hrow hif
   have HIh := Lib.hid hif
   obtain ⟨g0,g1,g2⟩ := hrow
   clear hr hif hh
   by_cases hc : h < sp
   ·
    have hcm : Dk.cmp r.name s < 0 := HIh.out.2 hc
    have HC := Lib.hid hc
    have HCo : Hid (∀ u,Below wz.heap.size wz u → Calls Tryz.prog 112 #[.agg #[.string r.name,.slice r.bytes.ao r.bytes.n r.bytes.cap,.int .i64 r.kept],.string s] u fun e w' => e = .returned (.int .i64 (Dk.cmp r.name s)) ∧ Below wz.heap.size wz w') := Lib.hid fun u hu => dk_order r s wz u hu
    generalize Dk.cmp r.name s = q at HCo hcm
    clear hc HIh
    go_wp2_with (go_at_call 112; refine (HCo.out _ (Below.refl _ _)).mono ?_; rintro e w1 ⟨rfl,b1⟩; have HB1 := Lib.hid (bchain HB.out b1); clear b1)
    go_roundw
    case rel => exact ⟨h + 1,j,by have := HC.out; omega,by omega,by omega,by go_num,rfl,HB1⟩
    case measure => simp [intOf]; omega
   ·
    have hcm : ¬ Dk.cmp r.name s < 0 := fun z => hc (HIh.out.1 z)
    have HC := Lib.hid hc
    have HCo : Hid (∀ u,Below wz.heap.size wz u → Calls Tryz.prog 112 #[.agg #[.string r.name,.slice r.bytes.ao r.bytes.n r.bytes.cap,.int .i64 r.kept],.string s] u fun e w' => e = .returned (.int .i64 (Dk.cmp r.name s)) ∧ Below wz.heap.size wz w') := Lib.hid fun u hu => dk_order r s wz u hu
    generalize Dk.cmp r.name s = q at HCo hcm
    clear hc HIh
    go_wp2_with (go_at_call 112; refine (HCo.out _ (Below.refl _ _)).mono ?_; rintro e w1 ⟨rfl,b1⟩; have HB1 := Lib.hid (bchain HB.out b1); clear b1)
    go_roundw
    case rel => exact ⟨i,h,by omega,by have := HC.out; omega,by omega,rfl,rfl,HB1⟩
    case measure => simp [intOf]; omega
  ·
   obtain rfl : i = sp := by omega
   obtain rfl : j = i := by omega
   by_cases hlt : j < n
   ·
    obtain ⟨b,off,rfl⟩ := HL.out.at (by omega)
    have hjr : j < rs.length := by have := HN.out; omega
    have hrow := (HL.out.row j hjr).below HB.out
    have HHas : Hid (has s fs = decide (Dk.cmp rs[j].name s = 0)) := Lib.hid (by
     rw [Bool.eq_iff_iff,has_spot HSo.out,decide_eq_true_iff,Dk.cmp_eq,HNm.out j hjr]
     simp only [HSq.out]
     exact ⟨fun z => z.2,fun z => ⟨hl ▸ hjr,z⟩⟩)
    obtain ⟨r,hr⟩ : ∃ r,rs[j] = r := ⟨_,rfl⟩
    rw [hr] at hrow HHas
    obtain ⟨g0,g1,g2⟩ := hrow
    have HCo : Hid (∀ u,Below wz.heap.size wz u → Calls Tryz.prog 112 #[.agg #[.string r.name,.slice r.bytes.ao r.bytes.n r.bytes.cap,.int .i64 r.kept],.string s] u fun e w' => e = .returned (.int .i64 (Dk.cmp r.name s)) ∧ Below wz.heap.size wz w') := Lib.hid fun u hu => dk_order r s wz u hu
    generalize Dk.cmp r.name s = q at HCo HHas
    clear hr
    by_cases hq : q = 0
    ·
     have hqe : (q == 0) = true := beq_iff_eq.2 hq
     have HH : Hid (has s fs = true) := Lib.hid (by rw [HHas.out]; exact decide_eq_true hq)
     clear hq HHas
     go_wp2_with (go_at_call 112; refine (HCo.out _ (Below.refl _ _)).mono ?_; rintro e w1 ⟨rfl,b1⟩; have HB1 := Lib.hid (bchain HB.out b1); clear b1)
     go_ret2
     exact ⟨by rw [HSq.out,HH.out]; rfl,HB1.out⟩
    ·
     have hqe : (q == 0) = false := beq_eq_false_iff_ne.2 hq
     have HH : Hid (has s fs = false) := Lib.hid (by rw [HHas.out]; exact decide_eq_false hq)
     clear hq HHas
     go_wp2_with (go_at_call 112; refine (HCo.out _ (Below.refl _ _)).mono ?_; rintro e w1 ⟨rfl,b1⟩; have HB1 := Lib.hid (bchain HB.out b1); clear b1)
     go_ret2
     exact ⟨by rw [HSq.out,HH.out]; rfl,HB1.out⟩
   ·
    have HH : Hid (has s fs = false) := Lib.hid (by
     rw [Bool.eq_false_iff]
     intro z
     have h4 := spot_lt HSo.out z
     have h5 := HSq.out
     have h6 := HN.out
     omega)
    go_wp2_with fail
    go_ret2
    exact ⟨by rw [HSq.out,HH.out]; rfl,HB.out⟩
theorem dk_find {P : Nat → Prop} {w : World} {p : Nat} {d : D} {v : Sl} {L : Int} {rs : List Fl.T} (h : At P w p d v L rs) (s : ByteArray) :
  Calls Tryz.prog 70 #[.pointer (some ⟨p,0,none⟩),.string s] w fun e w' => e = .returned (.tuple #[.int .i64 (spot s d.fs : Nat),.bool (has s d.fs)]) ∧ Below w.heap.size w w' := by
 have HA := Lib.hid h
 obtain ⟨c0,c1,c2,c3⟩ := h.box.cells
 have HC := Lib.hid (dk_search rs d.fs s v.ao v.n v.cap w h.ls h.each.len h.each.name h.ok.sorted (by rw [h.n.1]; exact h.few))
 generalize spot s d.fs = sp at HC ⊢
 generalize has s d.fs = hb at HC ⊢
 clear h
 go_enter Tryz.func70,Tryz.ntmps70
 go_wp2_with fail
 refine HC.out.mono ?_
 rintro e w1 ⟨rfl,b1⟩
 have HB := Lib.hid b1
 clear b1 c0 c1 c2 c3
 go_wp2_with fail
 go_ret2
 exact ⟨rfl,HB.out⟩
end Go.Proofs.YtmhmajoghbgcfaaGreatDoor
namespace Go.Proofs.YtmhmajoghbgcfaaGreatDoor.Fl
open Go.RowKit
open Mem Dk
theorem _root_.Go.Proofs.YtmhmajoghbgcfaaGreatDoor.UpdQ.grown {w u : World} {row : Option Nat} (gr : w.grownBy u row) : UpdQ (fun b => row = some b) w u :=
 ⟨gr.size,fun b hb hq => gr.block b hb fun e => hq e.symm,fun w0 a c => a.grown gr a.size fun k e => c k e⟩
theorem _root_.Go.Proofs.YtmhmajoghbgcfaaGreatDoor.UpdQ.row {Q : Nat → Prop} {g : Nat} (u : World) (hg : Q g) (vs : Array Value) : UpdQ Q u (u.setRow g vs) :=
 ⟨by simp [World.setRow],fun b _ hq => setRow_other u g b vs (fun e => hq (by rw [e]; exact hg)),fun w0 a c => below_setRow a (c g hg) vs⟩
theorem slice_from (g n c k l c' : Nat) (x : Int) (hx : x = (k : Int)) (hk : k + l = n) (hc : k + c' = c) (hl : 0 < c') (hn : n ≤ c) (h63 : c ≤ 9223372036854775807) (u : World) :
  (Instr.slice 74 (.slice (some ⟨g,0,none⟩) n c) (some (.int .i64 x)) none none).run Tryz.prog u = .ok (.slice (some ⟨g,k * 3,none⟩) l c') u := by
 subst hx
 rw [run_slice_l u 74 (some ⟨g,0,none⟩) n c und .i64 k (by omega) (by omega),size]
 have e1 : n - k = l := by omega
 have e2 : c - k = c' := by omega
 have e3 : ¬ c = k := by omega
 simp [Result.andThen,sliced,e1,e2,e3,Addr.add]
 intro h
 exact h.symm
theorem slice_to (g n c k : Nat) (x : Int) (hx : x = (k : Int)) (hk : k ≤ c) (h63 : c ≤ 9223372036854775807) (u : World) :
  (Instr.slice 74 (.slice (some ⟨g,0,none⟩) n c) none (some (.int .i64 x)) none).run Tryz.prog u = .ok (.slice (some ⟨g,0,none⟩) k c) u := by
 subst hx
 rw [run_slice_h u 74 (some ⟨g,0,none⟩) n c und .i64 k (by omega) (by omega),size]
 simp [Result.andThen,sliced,Addr.add]
def Raw (w : World) (g : Nat) (cs : List Value) : Prop := w.heap[g]? = some (.cells cs.toArray 90 (0,0))
def rlaid (cs : List Value) (rs : List T) (o : Nat) : List Value := cs.take (o * 3) ++ rs.flatMap rv ++ cs.drop ((o + rs.length) * 3)
def rcells (cs : List Value) : Array Value := cs.toArray
theorem Raw.laid {u : World} {g : Nat} {cs : List Value} (h : Raw u g cs) (ds : List Value) : Raw (u.setRow g (rcells ds)) g ds := setRow_heap u g _ _ 90 _ h
theorem Raw.drew {u : World} {g : Nat} {cs : List Value} (h : Raw u g cs) : Raw u.drew g cs := h
theorem flat_take : ∀ (M : List T) (o : Nat),(M.flatMap rv).take (o * 3) = (M.take o).flatMap rv
 | [],o => by simp
 | a :: l,0 => by simp
 | a :: l,o + 1 => by
  rw [List.flatMap_cons,List.take_succ_cons,List.flatMap_cons,show (o + 1) * 3 = (rv a).length + o * 3 by rw [rv_len]; omega,List.take_length_add_append,flat_take l o]
theorem copy_raw (u : World) (g : Nat) (cs : List Value) (o dl dc b so sl sc : Nat) (rs : List T) (hb : Raw u g cs) (hk : rs.length = Nat.min sl dl) (ho : (o + rs.length) * 3 ≤ cs.length) (hs : ∀ (k : Nat) (hk : k < rs.length),At u b (so + k * 3) rs[k]) (ty : TypeId) :
  (Builtin.copy_ #[74,74] ty #[.slice (some ⟨g,o * 3,none⟩) dl dc,.slice (some ⟨b,so,none⟩) sl sc]).run Tryz.prog u = .ok (goInt rs.length) (u.setRow g (rcells (rlaid cs rs o))) := by
 obtain ⟨i0,hi,hiK⟩ := Option.map_eq_some_iff.1 sizeZ
 have hl := run_loadCells_list (P := Tryz.prog) u ⟨b,so,none⟩ (rs.flatMap rv) (fun j v hv => news_of hs j v hv)
 have hst := run_storeCells_at Tryz.prog g (o * 3) 90 (rs.flatMap rv) 0 _ u hb (by rw [List.size_toArray,flat_len]; omega) (one_cell rs)
 have hlen : (rs.flatMap rv).length = rs.length * 3 := flat_len rs
 have e : (cs.toArray.toList.take (o * 3 + 0) ++ rs.flatMap rv ++ cs.toArray.toList.drop (o * 3 + 0 + (rs.flatMap rv).length)) = rlaid cs rs o := by
  rw [List.toList_toArray,Nat.add_zero,hlen,show o * 3 + rs.length * 3 = (o + rs.length) * 3 by omega]
  rfl
 rw [e] at hst
 rw [hlen] at hl
 unfold rcells
 simp [Builtin.copy_,run_underlying Tryz.underlying74,Builtin.lenOf,Builtin.firstCells,sizeOf,typeInfo,hi,hiK,← hk,hl,hst]
theorem own_raw {w : World} {B g n cap : Nat} {M : List T} (h : Own w B (.slice (some ⟨g,0,none⟩) n cap) M) : ∃ cs,Raw w g cs ∧ cs.length = cap * 3 ∧ cs.take (n * 3) = M.flatMap rv ∧ n = M.length ∧ n ≤ cap ∧ cap ≤ 9223372036854775807 ∧ B ≤ g := by
 rcases h.2 with ⟨h',_⟩ | ⟨g',cap',cur,h',hb,hg,hnc,hcm,hcs,htake⟩
 · cases h'
 ·
  simp only [Value.slice.injEq,Option.some.injEq,Addr.mk.injEq,and_true] at h'
  obtain ⟨e1,e2,e3⟩ := h'
  subst e1 e3
  refine ⟨cur.toList,?_,by rw [Array.length_toList,hcs],by rw [e2]; exact htake,e2,by rw [e2]; exact hnc,hcm,hb⟩
  unfold Raw
  rw [Array.toArray_toList]
  exact hg
theorem raw_own {w : World} {B g n cap : Nat} {M : List T} {cs : List Value} (h : Raw w g cs) (hl : cs.length = cap * 3) (ht : cs.take (n * 3) = M.flatMap rv) (hn : n = M.length) (hc : n ≤ cap) (hm : cap ≤ 9223372036854775807) (hB : B ≤ g) : Own w B (.slice (some ⟨g,0,none⟩) n cap) M := by
 subst hn
 exact ⟨by rw [flat_len],.inr ⟨g,cap,cs.toArray,rfl,hB,h,hc,by have : maxLen = 9223372036854775807 := rfl; omega,by rw [List.size_toArray,hl],by rw [List.toList_toArray]; exact ht⟩⟩
theorem flat_app (M N : List T) : (M ++ N).flatMap rv = M.flatMap rv ++ N.flatMap rv := List.flatMap_append
theorem laid_one {cs : List Value} {M : List T} {n i : Nat} (hn : n = M.length) (ht : cs.take (n * 3) = M.flatMap rv) (hi : i < n) (hl : (n + 1) * 3 ≤ cs.length) :
  rlaid cs (M.drop i) (i + 1) = (M.take (i + 1)).flatMap rv ++ (M.drop i).flatMap rv ++ cs.drop ((n + 1) * 3) := by
 unfold rlaid
 have e1 : cs.take ((i + 1) * 3) = (M.take (i + 1)).flatMap rv := by
  rw [← flat_take,← ht,List.take_take,Nat.min_eq_left (by omega)]
 have e2 : i + 1 + (M.drop i).length = n + 1 := by rw [List.length_drop]; omega
 rw [e1,e2]
theorem laid_two {X : List Value} {M : List T} {r : T} {n i : Nat} (hn : n = M.length) (hi : i < n) :
  rlaid ((M.take (i + 1)).flatMap rv ++ (M.drop i).flatMap rv ++ X) [r] i = (M.take i ++ r :: M.drop i).flatMap rv ++ X := by
 unfold rlaid
 have h1 : ((M.take (i + 1)).flatMap rv).length = (i + 1) * 3 := by rw [flat_len,List.length_take,Nat.min_eq_left (by omega)]
 have e1 : ((M.take (i + 1)).flatMap rv ++ (M.drop i).flatMap rv ++ X).take (i * 3) = (M.take i).flatMap rv := by
  rw [List.append_assoc,List.take_append_of_le_length (by rw [h1]; omega),flat_take,List.take_take,Nat.min_eq_left (by omega)]
 have e2 : ((M.take (i + 1)).flatMap rv ++ (M.drop i).flatMap rv ++ X).drop ((i + [r].length) * 3) = (M.drop i).flatMap rv ++ X := by
  rw [List.append_assoc,List.drop_left' (by rw [h1]; rfl)]
 rw [e1,e2,flat_app,List.flatMap_cons,List.flatMap_cons,List.flatMap_nil,List.append_nil]
 simp only [List.append_assoc]
theorem size3 (u : World) : (sizeOf 90).run Tryz.prog u = .ok 3 u := by
 obtain ⟨i,hi,hs⟩ := Option.map_eq_some_iff.1 sizeZ
 simp [sizeOf,typeInfo,hi,hs]
theorem Raw.shape {u : World} {g : Nat} {cs : List Value} (h : Raw u g cs) : u.shape? g = some (90,cs.length) := by
 unfold World.shape?
 rw [h]
 simp only [List.size_toArray]
def InsE (w : World) (v : Value) (M : List T) (i : Nat) (r : T) (e : Ending) (w' : World) : Prop := ∃ v',e = .returned v' ∧ Own w' 0 v' (M.take i ++ r :: M.drop i) ∧ (v'.ownBlock = v.ownBlock ∨ ∃ g,v'.ownBlock = some g ∧ w.heap.size ≤ g) ∧ UpdQ (fun b => v.ownBlock = some b) w w'
set_option maxHeartbeats 4000000 in
theorem insert_end (w : World) (ao : Option Addr) (n cap vb : Nat) (M : List T) (r : T) (h : Own w 0 (.slice ao n cap) M) (hs : ∀ x ∈ M,Short x) (hm : n ≤ 1000) (hv : w.heap[vb]? = some (block r)) :
  Calls Tryz.prog 114 #[.slice ao n cap,.int .i64 (n : Int),.slice (some ⟨vb,0,none⟩) 1 1] w (InsE w (.slice ao n cap) M n r) := by
 obtain ⟨ao',cap',e,l,_⟩ := own_ls h hs
 simp only [Value.slice.injEq] at e
 obtain ⟨rfl,hn,rfl⟩ := e
 have hcap := l.reach
 have hfit := l.fits
 rw [← hn] at l hfit
 obtain ⟨ao2,cap2,hsl,_⟩ := l.from n (Nat.le_refl _)
 have HO := Lib.hid h
 have HV := Lib.hid hv
 have HN := Lib.hid hn
 clear h hs hv l hn
 have hnn : ((n : Int) == (n : Int)) = true := beq_self_eq_true _
 go_enter Tryz.func114,Tryz.ntmps114
 go_wp2_with (at_builtin; go_must (refine wpList_append w rfl (.tmp 23) (.tmp 24) rfl 0 (.slice ao n cap) M rfl HO.out (some ⟨vb,0,none⟩) 1 1 [r] rfl rfl (fun z => by cases z) (seg_block HV.out) (by have := HN.out; omega) (Nat.zero_le _) ?_))
 intro v' w1 o1 gr1 at1
 have HI : Hid (InsE w (.slice ao n cap) M n r (.returned v') w1) := Lib.hid ⟨v',rfl,by rw [List.take_of_length_le (by have := HN.out; omega),List.drop_eq_nil_of_le (by have := HN.out; omega)]; exact o1,at1.imp id fun z => ⟨_,z,Nat.le_refl _⟩,UpdQ.grown gr1⟩
 clear o1 gr1 at1
 go_wp2_with fail
 go_ret
 exact HI.out
set_option maxHeartbeats 4000000 in
theorem insert_mid (w : World) (g n cap vb i : Nat) (M : List T) (r : T) (h : Own w 0 (.slice (some ⟨g,0,none⟩) n cap) M) (hv : w.heap[vb]? = some (block r)) (hne : vb ≠ g) (hi : i < n) (hroom : n + 1 ≤ cap) (hm : n ≤ 1000) :
  Calls Tryz.prog 114 #[.slice (some ⟨g,0,none⟩) n cap,.int .i64 (i : Int),.slice (some ⟨vb,0,none⟩) 1 1] w (InsE w (.slice (some ⟨g,0,none⟩) n cap) M i r) := by
 obtain ⟨cs,hR,hl,ht,hn,hnc,hcm,_⟩ := own_raw h
 have hs1 := slice_from g n cap i (n - i) (cap - i) (i : Int) rfl (by omega) (by omega) (by omega) (by omega) hcm
 have hs2 := slice_to g n cap (n + 1) ((n : Int) + 1) (by omega) (by omega) hcm
 have hs3 := slice_from g (n + 1) cap (i + 1) (n - i) (cap - (i + 1)) ((i : Int) + 1) (by omega) (by omega) (by omega) (by omega) (by omega) hcm
 have hs4 := slice_from g (n + 1) cap i (n + 1 - i) (cap - i) (i : Int) rfl (by omega) (by omega) (by omega) (by omega) hcm
 have hov : ∀ lb cb,(callFunc 140 #[.slice (some ⟨vb,0,none⟩) 1 1,.slice (some ⟨g,(i + 1) * 3,none⟩) lb cb]).run Tryz.prog w = .ok (.value (.bool false)) w := fun lb cb => by
  rw [run_callFunc_extern Tryz.func140 (by kernel_rfl) (by kernel_rfl) (by kernel_rfl) (e := Extern.SlicesOverlaps.overlaps #[74,74] #[4]) (by kernel_rfl),
   Lib.run_overlaps_apart w 74 4 90 Tryz.underlying74 3 size3 ⟨vb,0,none⟩ ⟨g,(i + 1) * 3,none⟩ 1 1 lb cb hne 90 90 3 cs.length (by unfold World.shape?; rw [hv]; rfl) hR.shape (by rw [hl]; omega) (frozen_of_row w vb 0 _ _ hv) (frozen_of_row w vb 3 _ _ hv)]
  rfl
 have hd : (M.drop i).length = n - i := by rw [List.length_drop,hn]
 have hl1 : (n + 1) * 3 ≤ cs.length := by omega
 obtain ⟨W1,hW1⟩ : ∃ W1,w.drew.setRow g (rcells ((M.take (i + 1)).flatMap rv ++ (M.drop i).flatMap rv ++ cs.drop ((n + 1) * 3))) = W1 := ⟨_,rfl⟩
 have hB1 : Raw W1 g ((M.take (i + 1)).flatMap rv ++ (M.drop i).flatMap rv ++ cs.drop ((n + 1) * 3)) := hW1 ▸ hR.drew.laid _
 have hcp1 : ∀ ty dc sc,(Builtin.copy_ #[74,74] ty #[.slice (some ⟨g,(i + 1) * 3,none⟩) (n - i) dc,.slice (some ⟨g,i * 3,none⟩) (n + 1 - i) sc]).run Tryz.prog w.drew = .ok (goInt (n - i : Nat)) W1 := fun ty dc sc => by
  have hcp := copy_raw w.drew g cs (i + 1) (n - i) dc g (i * 3) (n + 1 - i) sc (M.drop i) hR.drew (by rw [hd]; simp only [Nat.min_def]; split <;> omega) (by rw [hd]; omega) (fun k hk => by
   have hr := (own_at (own_drew h) (i + k) (by omega)).1
   rw [List.getElem_drop,show i * 3 + k * 3 = (i + k) * 3 by omega]
   exact hr) ty
  rw [laid_one hn ht hi hl1,hW1,hd] at hcp
  exact hcp
 have hvW : W1.heap[vb]? = some (block r) := by
  rw [← hW1,setRow_other w.drew g vb _ hne]
  exact hv
 obtain ⟨W2,hW2⟩ : ∃ W2,W1.setRow g (rcells ((M.take i ++ r :: M.drop i).flatMap rv ++ cs.drop ((n + 1) * 3))) = W2 := ⟨_,rfl⟩
 have hlen1 : ((M.take (i + 1)).flatMap rv ++ (M.drop i).flatMap rv ++ cs.drop ((n + 1) * 3)).length = cap * 3 := by
  rw [List.length_append,List.length_append,flat_len,flat_len,List.length_take,hd,List.length_drop,hl,Nat.min_eq_left (by omega)]
  omega
 have hcp2 : ∀ ty dc,(Builtin.copy_ #[74,74] ty #[.slice (some ⟨g,i * 3,none⟩) (n + 1 - i) dc,.slice (some ⟨vb,0,none⟩) 1 1]).run Tryz.prog W1 = .ok (goInt 1) W2 := fun ty dc => by
  have hsg := seg_block hvW
  have hcp := copy_raw W1 g _ i (n + 1 - i) dc vb 0 1 1 [r] hB1 (by simp only [Nat.min_def,List.length_singleton]; split <;> omega) (by rw [hlen1]; simp only [List.length_singleton]; omega) (by
   rcases hsg with e | ⟨b,off,e,hat⟩
   · cases e
   ·
    cases e
    exact hat) ty
  rw [laid_two hn hi,hW2] at hcp
  exact hcp
 have hlen2 : ((M.take i ++ r :: M.drop i).flatMap rv).length = (n + 1) * 3 := by
  rw [flat_len,List.length_append,List.length_cons,List.length_take,hd,Nat.min_eq_left (by omega)]
  omega
 have HI : Hid (InsE w (.slice (some ⟨g,0,none⟩) n cap) M i r (.returned (.slice (some ⟨g,0,none⟩) (n + 1) cap)) W2) := Lib.hid (by
  refine ⟨_,rfl,raw_own (cs := (M.take i ++ r :: M.drop i).flatMap rv ++ cs.drop ((n + 1) * 3)) ?_ ?_ ?_ ?_ hroom hcm (Nat.zero_le _),.inl rfl,?_⟩
  ·
   rw [← hW2]
   exact hB1.laid _
  ·
   rw [List.length_append,hlen2,List.length_drop,hl]
   omega
  · rw [List.take_left' hlen2]
  ·
   rw [List.length_append,List.length_cons,List.length_take,hd,Nat.min_eq_left (by omega)]
   omega
  ·
   rw [← hW2,← hW1]
   exact ((UpdQ.of (Below.refl _ _).drew).trans (UpdQ.row (Q := fun b => (Value.slice (some ⟨g,0,none⟩) n cap).ownBlock = some b) w.drew rfl _)).trans (UpdQ.row (Q := fun b => (Value.slice (some ⟨g,0,none⟩) n cap).ownBlock = some b) _ rfl _))
 have hin' : ((i : Int) == (n : Int)) = false := beq_eq_false_iff_ne.2 (by omega)
 have hcn : (n : Int) + 1 ≤ (cap : Int) := by omega
 have hi1 : (i : Int) + 1 ≤ (n : Int) := by omega
 clear h hv hR hl ht hn hW1 hW2 hB1 hd hvW hne hl1 hlen1 hlen2
 go_enter Tryz.func114,Tryz.ntmps114
 go_wp2_with (simp only [hov])
 go_region
 go_wp2_with fail
 go_ret
 exact HI.out
end Go.Proofs.YtmhmajoghbgcfaaGreatDoor.Fl
namespace Go.Proofs.YtmhmajoghbgcfaaGreatDoor.Fl
open Go.RowKit
open Mem Dk
theorem zero_cells (n : Nat) : (Builtin.zeroCells zeroV.cells n).toList = (List.replicate n zero).flatMap rv := by
 have h := congrArg Array.toList (made n)
 unfold zeros at h
 rw [List.toList_toArray] at h
 exact h
theorem grow_row (M : List T) (i a b : Nat) : ((M.take i).flatMap rv).toArray ++ Builtin.zeroCells zeroV.cells a ++ Builtin.zeroCells zeroV.cells b = ((M.take i).flatMap rv ++ (List.replicate (a + b) zero).flatMap rv).toArray := by
 apply Array.toList_inj.1
 rw [Array.toList_append,Array.toList_append,zero_cells,zero_cells,List.toList_toArray,List.toList_toArray,List.append_assoc,← flat_app,List.replicate_append_replicate]
theorem grow_one {M : List T} {r : T} {n i k : Nat} (hn : n = M.length) (hi : i < n) : rlaid ((M.take i).flatMap rv ++ (List.replicate (k + 1) zero).flatMap rv) [r] i = (M.take i).flatMap rv ++ rv r ++ (List.replicate k zero).flatMap rv := by
 unfold rlaid
 have h1 : ((M.take i).flatMap rv).length = i * 3 := by rw [flat_len,List.length_take,Nat.min_eq_left (by omega)]
 have e1 : ((M.take i).flatMap rv ++ (List.replicate (k + 1) zero).flatMap rv).take (i * 3) = (M.take i).flatMap rv := List.take_left' h1
 have e2 : ((M.take i).flatMap rv ++ (List.replicate (k + 1) zero).flatMap rv).drop ((i + [r].length) * 3) = (List.replicate k zero).flatMap rv := by
  rw [List.replicate_succ,List.flatMap_cons,← List.append_assoc,List.drop_left' (by rw [List.length_append,h1,rv_len,List.length_singleton]; omega)]
 rw [e1,e2,List.flatMap_cons,List.flatMap_nil,List.append_nil]
theorem grow_two {M : List T} {r : T} {n i k : Nat} (hn : n = M.length) (hi : i < n) : rlaid ((M.take i).flatMap rv ++ rv r ++ (List.replicate ((n - i) + k) zero).flatMap rv) (M.drop i) (i + 1) = (M.take i ++ r :: M.drop i).flatMap rv ++ (List.replicate k zero).flatMap rv := by
 unfold rlaid
 have h1 : ((M.take i).flatMap rv ++ rv r).length = (i + 1) * 3 := by rw [List.length_append,flat_len,List.length_take,rv_len,Nat.min_eq_left (by omega)]; omega
 have h2 : (M.drop i).length = n - i := by rw [List.length_drop,hn]
 have e1 : ((M.take i).flatMap rv ++ rv r ++ (List.replicate ((n - i) + k) zero).flatMap rv).take ((i + 1) * 3) = (M.take i).flatMap rv ++ rv r := List.take_left' h1
 have e2 : ((M.take i).flatMap rv ++ rv r ++ (List.replicate ((n - i) + k) zero).flatMap rv).drop ((i + 1 + (M.drop i).length) * 3) = (List.replicate k zero).flatMap rv := by
  rw [← List.replicate_append_replicate,flat_app,← List.append_assoc,List.drop_left' (by rw [List.length_append,h1,flat_len,List.length_replicate,h2]; omega)]
 rw [e1,e2,flat_app,List.flatMap_cons]
 simp only [List.append_assoc]
set_option maxHeartbeats 4000000 in
theorem insert_grow (w : World) (g n cap vb i : Nat) (M : List T) (r : T) (h : Own w 0 (.slice (some ⟨g,0,none⟩) n cap) M) (hv : w.heap[vb]? = some (block r)) (hi : i < n) (hroom : cap < n + 1) (hm : n ≤ 1000) :
  Calls Tryz.prog 114 #[.slice (some ⟨g,0,none⟩) n cap,.int .i64 (i : Int),.slice (some ⟨vb,0,none⟩) 1 1] w (InsE w (.slice (some ⟨g,0,none⟩) n cap) M i r) := by
 obtain ⟨cs,hR,hl,ht,hn,hnc,hcm,_⟩ := own_raw h
 have hgl : g < w.heap.size := (Array.getElem?_eq_some_iff.1 hR).1
 have hvl : vb < w.heap.size := (Array.getElem?_eq_some_iff.1 hv).1
 obtain ⟨i0,hi0,hz0,hz1,hz2⟩ := info_parts info
 obtain ⟨G,hG⟩ : ∃ G,grownCap w (n + 1) cap 90 = G := ⟨_,rfl⟩
 have hGn : n + 1 ≤ G := hG ▸ grownCap_ge w _ _ _
 have hG63 : G ≤ 9223372036854775807 := by
  have := grownCap_le_maxLen w (n + 1) cap 90 (by unfold maxLen; omega)
  rw [hG] at this
  unfold maxLen at this
  omega
 obtain ⟨W1,hW1⟩ : ∃ W1,w.drew.alloc (.cells ((M.take i).flatMap rv ++ (List.replicate ((n + 1 - i) + (G - (n + 1))) zero).flatMap rv).toArray 90) = W1 := ⟨_,rfl⟩
 have hold : (Builtin.firstCells i0.size i (.slice (some ⟨g,0,none⟩) i cap)).run Tryz.prog w.drew = .ok ((M.take i).flatMap rv).toArray w.drew := by
  rw [hz1]
  refine run_firstCells_some w.drew 3 i ⟨g,0,none⟩ i cap _ (by rw [flat_len,List.length_take,Nat.min_eq_left (by omega)]) (fun j v hj => ?_)
  have hrow : ∀ (k : Nat) (hk : k < (M.take i).length),At w.drew g (0 + k * 3) (M.take i)[k] := fun k hk => by
   rw [List.length_take] at hk
   have := (own_at (own_drew h) k (by omega)).1
   rw [List.getElem_take,Nat.zero_add]
   exact this
  exact news_of hrow j v hj
 have hik : i + (n + 1 - i) = n + 1 := by omega
 have hrz : ∀ ty,(Builtin.append_ #[74,3] ty #[.slice (some ⟨g,0,none⟩) i cap,.int .i64 ((n : Int) + 1 - (i : Int))]).run Tryz.prog w = .ok (.slice (some ⟨w.heap.size,0,none⟩) (n + 1) G) W1 := fun ty => by
  have hk := Lib.run_append_grow_zeros w 74 3 ty 90 i0 _ .i64 .i64 Tryz.underlying74 Tryz.underlying3 hi0 hz0 (some ⟨g,0,none⟩) i cap _ hold (n + 1 - i) (by omega) (by rw [hz1]; omega) (by omega) (by omega) (by rw [hz2]; omega) (by rw [hz2,hik]; exact growslice_fits hroom (by omega))
  rw [hik,hG,grow_row,hW1] at hk
  rw [show (n : Int) + 1 - (i : Int) = ((n + 1 - i : Nat) : Int) by omega]
  exact hk
 have hs0 := slice_to g n cap i (i : Int) rfl (by omega) hcm
 have hs1 := slice_from g n cap i (n - i) (cap - i) (i : Int) rfl (by omega) (by omega) (by omega) (by omega) hcm
 have hs2 := slice_from w.heap.size (n + 1) G i (n + 1 - i) (G - i) (i : Int) rfl (by omega) (by omega) (by omega) (by omega) hG63
 have hs3 := slice_from w.heap.size (n + 1) G (i + 1) (n - i) (G - (i + 1)) ((i : Int) + 1) (by omega) (by omega) (by omega) (by omega) (by omega) hG63
 have hR1 : Raw W1 w.heap.size ((M.take i).flatMap rv ++ (List.replicate ((G - i - 1) + 1) zero).flatMap rv) := by
  rw [← hW1,show (G - i - 1) + 1 = (n + 1 - i) + (G - (n + 1)) by omega]
  exact heap_alloc_new w.drew _
 have hb1 : Below w.heap.size w W1 := by
  rw [← hW1]
  exact (Below.refl _ _).drew.alloc (Nat.le_refl _) _
 have hd : (M.drop i).length = n - i := by rw [List.length_drop,hn]
 have hlen1 : ((M.take i).flatMap rv ++ (List.replicate ((G - i - 1) + 1) zero).flatMap rv).length = G * 3 := by
  rw [List.length_append,flat_len,flat_len,List.length_take,List.length_replicate,Nat.min_eq_left (by omega)]
  omega
 obtain ⟨W2,hW2⟩ : ∃ W2,W1.setRow w.heap.size (rcells ((M.take i).flatMap rv ++ rv r ++ (List.replicate (G - i - 1) zero).flatMap rv)) = W2 := ⟨_,rfl⟩
 have hcp1 : ∀ ty dc,(Builtin.copy_ #[74,74] ty #[.slice (some ⟨w.heap.size,i * 3,none⟩) (n + 1 - i) dc,.slice (some ⟨vb,0,none⟩) 1 1]).run Tryz.prog W1 = .ok (goInt 1) W2 := fun ty dc => by
  have hsg := seg_block ((hb1.block vb hvl).trans hv)
  have hcp := copy_raw W1 w.heap.size _ i (n + 1 - i) dc vb 0 1 1 [r] hR1 (by simp only [Nat.min_def,List.length_singleton]; split <;> omega) (by rw [hlen1]; simp only [List.length_singleton]; omega) (by
   rcases hsg with e | ⟨b,off,e,hat⟩
   · cases e
   ·
    cases e
    exact hat) ty
  rw [grow_one hn hi,hW2] at hcp
  exact hcp
 have hR2 : Raw W2 w.heap.size ((M.take i).flatMap rv ++ rv r ++ (List.replicate ((n - i) + (G - (n + 1))) zero).flatMap rv) := by
  rw [← hW2,show (n - i) + (G - (n + 1)) = G - i - 1 by omega]
  exact hR1.laid _
 have hlen2 : ((M.take i).flatMap rv ++ rv r ++ (List.replicate ((n - i) + (G - (n + 1))) zero).flatMap rv).length = G * 3 := by
  rw [List.length_append,List.length_append,flat_len,flat_len,List.length_take,List.length_replicate,rv_len,Nat.min_eq_left (by omega)]
  omega
 have hb2 : Below w.heap.size w W2 := by
  rw [← hW2]
  exact below_setRow hb1 (Nat.le_refl _) _
 obtain ⟨W3,hW3⟩ : ∃ W3,W2.drew.setRow w.heap.size (rcells ((M.take i ++ r :: M.drop i).flatMap rv ++ (List.replicate (G - (n + 1)) zero).flatMap rv)) = W3 := ⟨_,rfl⟩
 have hcp2 : ∀ ty dc sc,(Builtin.copy_ #[74,74] ty #[.slice (some ⟨w.heap.size,(i + 1) * 3,none⟩) (n - i) dc,.slice (some ⟨g,i * 3,none⟩) (n - i) sc]).run Tryz.prog W2.drew = .ok (goInt (n - i : Nat)) W3 := fun ty dc sc => by
  have hO2 := own_drew (own_below h hb2)
  have hcp := copy_raw W2.drew w.heap.size _ (i + 1) (n - i) dc g (i * 3) (n - i) sc (M.drop i) hR2.drew (by rw [hd]; simp only [Nat.min_def]; split <;> omega) (by rw [hd,hlen2]; omega) (fun k hk => by
   have hr := (own_at hO2 (i + k) (by omega)).1
   rw [List.getElem_drop,show i * 3 + k * 3 = (i + k) * 3 by omega]
   exact hr) ty
  rw [grow_two hn hi,hW3,hd] at hcp
  exact hcp
 have hlen3 : ((M.take i ++ r :: M.drop i).flatMap rv).length = (n + 1) * 3 := by
  rw [flat_len,List.length_append,List.length_cons,List.length_take,hd,Nat.min_eq_left (by omega)]
  omega
 have HI : Hid (InsE w (.slice (some ⟨g,0,none⟩) n cap) M i r (.returned (.slice (some ⟨w.heap.size,0,none⟩) (n + 1) G)) W3) := Lib.hid (by
  refine ⟨_,rfl,raw_own (cs := (M.take i ++ r :: M.drop i).flatMap rv ++ (List.replicate (G - (n + 1)) zero).flatMap rv) ?_ ?_ ?_ ?_ hGn hG63 (Nat.zero_le _),.inr ⟨_,rfl,Nat.le_refl _⟩,UpdQ.of ?_⟩
  ·
   rw [← hW3]
   exact hR2.drew.laid _
  ·
   rw [List.length_append,hlen3,flat_len,List.length_replicate]
   omega
  · rw [List.take_left' hlen3]
  ·
   rw [List.length_append,List.length_cons,List.length_take,hd,Nat.min_eq_left (by omega)]
   omega
  ·
   rw [← hW3]
   exact below_setRow hb2.drew (Nat.le_refl _) _)
 have hin' : ((i : Int) == (n : Int)) = false := beq_eq_false_iff_ne.2 (by omega)
 have hcn : (cap : Int) < (n : Int) + 1 := by omega
 have hi1 : (i : Int) + 1 ≤ (n : Int) := by omega
 have hw1 : IntKind.i64.wrap ((i : Int) + 1) = (i : Int) + 1 := by rw [IntKind.wrap_i64]; omega
 clear h hv hR hl ht hn hW1 hW2 hW3 hR1 hR2 hb1 hb2 hd hlen1 hlen2 hlen3 hold hG hi0 hz0 hz1 hz2 hgl hvl
 go_enter Tryz.func114,Tryz.ntmps114
 go_wp2_with (at_builtin; refine Lib.wpList_append_run _ rfl _ _ _ _ rfl _ _ rfl rfl _ _ (hrz _) ?_)
 go_region
 go_wp2_with fail
 go_ret
 exact HI.out
theorem insert_any (w : World) (ao : Option Addr) (n cap vb i : Nat) (M : List T) (r : T) (h : Own w 0 (.slice ao n cap) M) (hs : ∀ x ∈ M,Short x) (hv : w.heap[vb]? = some (block r)) (hne : ∀ b,(Value.slice ao n cap).ownBlock = some b → vb ≠ b) (hi : i ≤ n) (hm : n ≤ 1000) :
  Calls Tryz.prog 114 #[.slice ao n cap,.int .i64 (i : Int),.slice (some ⟨vb,0,none⟩) 1 1] w (InsE w (.slice ao n cap) M i r) := by
 by_cases e : i = n
 ·
  subst e
  exact insert_end w ao i cap vb M r h hs hm hv
 ·
  rcases h.2 with ⟨h1,h2⟩ | ⟨g,cap',cur,h1,_⟩
  ·
   simp only [Value.slice.injEq] at h1
   omega
  ·
   simp only [Value.slice.injEq] at h1
   obtain ⟨rfl,_,rfl⟩ := h1
   by_cases hr : n + 1 ≤ cap
   · exact insert_mid w g n cap vb i M r h hv (hne g rfl) (by omega) hr hm
   · exact insert_grow w g n cap vb i M r h hv (by omega) (by omega) hm
end Go.Proofs.YtmhmajoghbgcfaaGreatDoor.Fl
namespace Go.Proofs.YtmhmajoghbgcfaaGreatDoor
open Go.RowKit
open Mem Dk
theorem step_append_run {P : Program} {ops : Array Oper} {o : Oper} {a : Act} {w : World} {K : Act → World → Prop} {Q : Exit → Act → World → Prop} {E : Prop}
  (hg : o.guard = none) (s x : Operand) (t t' : TypeId) (hop : o.op = Op.call { callee := Callee.builtin Builtin.append,args := #[s,x],argTypes := #[t,t'] })
  (vs vx : Value) (hs : a.eval s = vs) (hx : a.eval x = vx) (v : Value) (W : World) (hrun : (Builtin.append_ #[t,t'] o.type #[vs,vx]).run P w = .ok v W)
  (hK : K (a.put o.dst v) W) : if Region.wanted o (yielded ops a.tmps) = true then Oper.wp P o a w K Q else E := by
 have hw : Region.wanted o (yielded ops a.tmps) = true := by simp [Region.wanted,hg]
 rw [if_pos hw]
 unfold Oper.wp
 simp [execOp,hop,resolve,invoke,builtin,hs,hx,hrun,Result.andThen]
 exact hK
namespace Fl
theorem rlaid_len {cs : List Value} {rs : List T} {o : Nat} (h : (o + rs.length) * 3 ≤ cs.length) : (rlaid cs rs o).length = cs.length := by
 unfold rlaid
 rw [List.length_append,List.length_append,List.length_take,List.length_drop,flat_len,Nat.min_eq_left (by omega)]
 omega
theorem rlaid_take {cs : List Value} {rs : List T} {o : Nat} (h : o * 3 ≤ cs.length) : (rlaid cs rs o).take (o * 3) = cs.take (o * 3) := by
 unfold rlaid
 rw [List.append_assoc,List.take_left' (by rw [List.length_take]; omega)]
theorem slice_any (g n c k l c' : Nat) (x : Int) (hx : x = (k : Int)) (hk : k + l = n) (hc : k + c' = c) (hn : n ≤ c) (h63 : c ≤ 9223372036854775807) :
  ∃ A : Addr,(∀ u,(Instr.slice 74 (.slice (some ⟨g,0,none⟩) n c) (some (.int .i64 x)) none none).run Tryz.prog u = .ok (.slice (some A) l c') u) ∧ (0 < c' → A = ⟨g,k * 3,none⟩) := by
 by_cases h : 0 < c'
 · exact ⟨_,fun u => slice_from g n c k l c' x hx hk hc h hn h63 u,fun _ => rfl⟩
 ·
  refine ⟨⟨g,0,none⟩,fun u => ?_,fun z => absurd z h⟩
  subst hx
  rw [run_slice_l u 74 (some ⟨g,0,none⟩) n c und .i64 k (by omega) (by omega),size]
  have e1 : n - k = l := by omega
  have e2 : c - k = c' := by omega
  have e3 : c = k := by omega
  have e4 : k - k = c' := by omega
  simp [Result.andThen,sliced,e1,e3,← e4]
theorem append_raw (u : World) (g i cap : Nat) (cs : List Value) (A : Addr) (m c : Nat) (rs : List T) (hb : Raw u g cs) (hm : rs.length = m) (hroom : i + m ≤ cap) (hl : cs.length = cap * 3) (hA : ∀ j x,(rs.flatMap rv)[j]? = some x → u.cell? (A.add j) = some x) (ty : TypeId) :
  (Builtin.append_ #[74,74] ty #[.slice (some ⟨g,0,none⟩) i cap,.slice (some A) m c]).run Tryz.prog u = .ok (.slice (some ⟨g,0,none⟩) (i + m) cap) (u.setRow g (rcells (rlaid cs rs i))) := by
 obtain ⟨i0,hi0,hz0,hz1,hz2⟩ := info_parts info
 have hfl : (rs.flatMap rv).length = m * i0.size := by rw [flat_len,hm,hz1]
 have hfc := run_firstCells_some (P := Tryz.prog) u i0.size m A m c (rs.flatMap rv) hfl hA
 have hst := run_storeCells_at Tryz.prog g (0 + i * i0.size) 90 (rs.flatMap rv) 0 _ u hb (by rw [List.size_toArray,flat_len,hz1,hm]; omega) (one_cell rs)
 have e : (cs.toArray.toList.take (0 + i * i0.size + 0) ++ rs.flatMap rv ++ cs.toArray.toList.drop (0 + i * i0.size + 0 + (rs.flatMap rv).length)) = rlaid cs rs i := by
  rw [List.toList_toArray,flat_len,hz1,Nat.add_zero,Nat.zero_add,show i * 3 + rs.length * 3 = (i + rs.length) * 3 by omega]
  rfl
 rw [e,Nat.zero_add] at hst
 unfold rcells
 simp [Builtin.append_,run_underlying Tryz.underlying74,sizeOf,typeInfo,hi0,Builtin.lenOf,hroom,hfc,Addr.add_lit,hst]
theorem clear_raw (u : World) (g k c : Nat) (cs : List Value) (hb : Raw u g cs) (hl : (k + 1) * 3 ≤ cs.length) (ty : TypeId) :
  (Builtin.clear_ #[74] ty #[.slice (some ⟨g,k * 3,none⟩) 1 c]).run Tryz.prog u = .ok (.tuple #[]) (u.setRow g (rcells (rlaid cs [zero] k))) := by
 have hst := run_storeCells_at Tryz.prog g (k * 3) 90 ((List.replicate 1 zero).flatMap rv) 0 _ u hb (by rw [List.size_toArray,flat_len,List.length_replicate]; omega) (one_cell _)
 have e : (cs.toArray.toList.take (k * 3 + 0) ++ (List.replicate 1 zero).flatMap rv ++ cs.toArray.toList.drop (k * 3 + 0 + ((List.replicate 1 zero).flatMap rv).length)) = rlaid cs [zero] k := by
  rw [List.toList_toArray,flat_len,Nat.add_zero,List.length_replicate,show k * 3 + 1 * 3 = (k + 1) * 3 by omega]
  rfl
 rw [e] at hst
 have hz : ∀ u,(zeroValue 90).run Tryz.prog u = .ok zeroV u := Tryz.zeroValue90
 unfold rcells
 simp only [Builtin.clear_,Sem.run_bind,Sem.run_pure,run_underlying Tryz.underlying74,Result.andThen_ok,List.getElem?_toArray,List.getElem?_cons_zero,hz,zero_cells,hst]
def DelE (w : World) (v : Value) (M : List T) (i : Nat) (e : Ending) (w' : World) : Prop := ∃ v',e = .returned v' ∧ Own w' 0 v' (M.take i ++ M.drop (i + 1)) ∧ v'.ownBlock = v.ownBlock ∧ UpdQ (fun b => v.ownBlock = some b) w w'
set_option maxHeartbeats 4000000 in
theorem delete_one (w : World) (ao : Option Addr) (n cap i : Nat) (M : List T) (h : Own w 0 (.slice ao n cap) M) (hi : i < n) (hm : n ≤ 1000) :
  Calls Tryz.prog 122 #[.slice ao n cap,.int .i64 (i : Int),.int .i64 ((i : Int) + 1)] w (DelE w (.slice ao n cap) M i) := by
 obtain ⟨g,rfl⟩ : ∃ g,ao = some ⟨g,0,none⟩ := by
  rcases h.2 with ⟨h1,h2⟩ | ⟨g,cap',cur,h1,_⟩
  ·
   simp only [Value.slice.injEq] at h1
   omega
  ·
   simp only [Value.slice.injEq] at h1
   exact ⟨g,h1.1⟩
 obtain ⟨cs,hR,hl,ht,hn,hnc,hcm,_⟩ := own_raw h
 have hs0 : ∀ u,(Instr.slice 74 (.slice (some ⟨g,0,none⟩) n cap) (some (.int .i64 (i : Int))) (some (.int .i64 ((i : Int) + 1))) (some (.int .i64 (n : Int)))).run Tryz.prog u = .ok (.slice (some ⟨g,i * 3,none⟩) 1 (n - i)) u := fun u => by
  rw [run_slice_lhm u 74 (some ⟨g,0,none⟩) n cap und .i64 .i64 .i64 i ((i : Int) + 1) n (by omega) (by omega) (by omega) (by omega),size]
  have e1 : ((i : Int) + 1).toNat = i + 1 := by omega
  have e3 : ¬ n = i := by omega
  simp [Result.andThen,sliced,e1,e3,Addr.add]
  intro z
  exact z.symm
 have hs1 := slice_to g n cap i (i : Int) rfl (by omega) hcm
 obtain ⟨A,hs2,hA⟩ := slice_any g n cap (i + 1) (n - (i + 1)) (cap - (i + 1)) ((i : Int) + 1) (by omega) (by omega) (by omega) (by omega) hcm
 have hd : (M.drop (i + 1)).length = n - (i + 1) := by rw [List.length_drop,hn]
 obtain ⟨W1,hW1⟩ : ∃ W1,w.drew.setRow g (rcells (rlaid cs (M.drop (i + 1)) i)) = W1 := ⟨_,rfl⟩
 have hnn : i + (n - (i + 1)) = n - 1 := by omega
 have hap : ∀ ty,(Builtin.append_ #[74,74] ty #[.slice (some ⟨g,0,none⟩) i cap,.slice (some A) (n - (i + 1)) (cap - (i + 1))]).run Tryz.prog w.drew = .ok (.slice (some ⟨g,0,none⟩) (n - 1) cap) W1 := fun ty => by
  have := append_raw w.drew g i cap cs A (n - (i + 1)) (cap - (i + 1)) (M.drop (i + 1)) hR.drew hd (by omega) hl (fun j x hx => by
   have hj : j < (M.drop (i + 1)).length * 3 := by
    have := (List.getElem?_eq_some_iff.1 hx).1
    rwa [flat_len] at this
   rw [hA (by omega)]
   refine news_of (off := (i + 1) * 3) (fun k hk => ?_) j x hx
   have hr := (own_at (own_drew h) (i + 1 + k) (by omega)).1
   rw [List.getElem_drop,show (i + 1) * 3 + k * 3 = (i + 1 + k) * 3 by omega]
   exact hr) ty
  rw [hnn,hW1] at this
  exact this
 have hlen1 : (rlaid cs (M.drop (i + 1)) i).length = cap * 3 := by rw [rlaid_len (by rw [hd]; omega),hl]
 have hR1 : Raw W1 g (rlaid cs (M.drop (i + 1)) i) := hW1 ▸ hR.drew.laid _
 have hs3 : ∀ u,(Instr.slice 74 (.slice (some ⟨g,0,none⟩) (n - 1) cap) (some (.int .i64 ((n - 1 : Nat) : Int))) (some (.int .i64 (n : Int))) none).run Tryz.prog u = .ok (.slice (some ⟨g,(n - 1) * 3,none⟩) 1 (cap - (n - 1))) u := fun u => by
  rw [run_slice_lh u 74 (some ⟨g,0,none⟩) (n - 1) cap und .i64 .i64 ((n - 1 : Nat) : Int) n (by omega) (by omega) (by omega),size]
  have e1 : ((n - 1 : Nat) : Int).toNat = n - 1 := by omega
  have e2 : n - (n - 1) = 1 := by omega
  have e3 : ¬ cap = n - 1 := by omega
  simp [Result.andThen,sliced,e1,e2,e3,Addr.add]
  intro z
  exact z.symm
 obtain ⟨W2,hW2⟩ : ∃ W2,W1.setRow g (rcells (rlaid (rlaid cs (M.drop (i + 1)) i) [zero] (n - 1))) = W2 := ⟨_,rfl⟩
 have hcl : ∀ ty c,(Builtin.clear_ #[74] ty #[.slice (some ⟨g,(n - 1) * 3,none⟩) 1 c]).run Tryz.prog W1 = .ok (.tuple #[]) W2 := fun ty c => hW2 ▸ clear_raw W1 g (n - 1) c _ hR1 (by rw [hlen1]; omega) ty
 have HI : Hid (DelE w (.slice (some ⟨g,0,none⟩) n cap) M i (.returned (.slice (some ⟨g,0,none⟩) (n - 1) cap)) W2) := Lib.hid (by
  refine ⟨_,rfl,raw_own (cs := rlaid (rlaid cs (M.drop (i + 1)) i) [zero] (n - 1)) ?_ ?_ ?_ ?_ (by omega) hcm (Nat.zero_le _),rfl,?_⟩
  ·
   rw [← hW2]
   exact hR1.laid _
  · rw [rlaid_len (by rw [hlen1,List.length_singleton]; omega),hlen1]
  ·
   rw [rlaid_take (by rw [hlen1]; omega)]
   unfold rlaid
   rw [flat_app,← flat_take,← ht,List.take_take,Nat.min_eq_left (by omega),List.take_left' (by rw [List.length_append,List.length_take,flat_len,hd,Nat.min_eq_left (by omega)]; omega)]
  ·
   rw [List.length_append,List.length_take,hd,Nat.min_eq_left (by omega)]
   omega
  ·
   rw [← hW2,← hW1]
   exact ((UpdQ.of (Below.refl _ _).drew).trans (UpdQ.row (Q := fun b => (Value.slice (some ⟨g,0,none⟩) n cap).ownBlock = some b) w.drew rfl _)).trans (UpdQ.row (Q := fun b => (Value.slice (some ⟨g,0,none⟩) n cap).ownBlock = some b) _ rfl _))
 have hin' : ((i : Int) == (i : Int) + 1) = false := beq_eq_false_iff_ne.2 (by omega)
 clear h hR hl ht hn hW1 hW2 hR1 hd hlen1 hnn hA
 go_enter Tryz.func122,Tryz.ntmps122
 go_wp2_with fail
 go_region_law (refine step_append_run rfl (.tmp 22) (.tmp 25) 74 74 rfl _ _ (by simp [Act.eval,Act.put]) (by simp [Act.eval,Act.put]) _ _ (hap _) ?_)
 go_wp2_with fail
 go_ret
 exact HI.out
end Fl
end Go.Proofs.YtmhmajoghbgcfaaGreatDoor
namespace Go.Proofs.YtmhmajoghbgcfaaGreatDoor.Et
open Go.RowKit
open Mem
theorem slice_from (g n c k l c' : Nat) (x : Int) (hx : x = (k : Int)) (hk : k + l = n) (hc : k + c' = c) (hl : 0 < c') (hn : n ≤ c) (h63 : c ≤ 9223372036854775807) (u : World) :
  (Instr.slice 28 (.slice (some ⟨g,0,none⟩) n c) (some (.int .i64 x)) none none).run Tryz.prog u = .ok (.slice (some ⟨g,k * 3,none⟩) l c') u := by
 subst hx
 rw [run_slice_l u 28 (some ⟨g,0,none⟩) n c und .i64 k (by omega) (by omega),size]
 have e1 : n - k = l := by omega
 have e2 : c - k = c' := by omega
 have e3 : ¬ c = k := by omega
 simp [Result.andThen,sliced,e1,e2,e3,Addr.add]
 intro h
 exact h.symm
theorem slice_to (g n c k : Nat) (x : Int) (hx : x = (k : Int)) (hk : k ≤ c) (h63 : c ≤ 9223372036854775807) (u : World) :
  (Instr.slice 28 (.slice (some ⟨g,0,none⟩) n c) none (some (.int .i64 x)) none).run Tryz.prog u = .ok (.slice (some ⟨g,0,none⟩) k c) u := by
 subst hx
 rw [run_slice_h u 28 (some ⟨g,0,none⟩) n c und .i64 k (by omega) (by omega),size]
 simp [Result.andThen,sliced,Addr.add]
def Raw (w : World) (g : Nat) (cs : List Value) : Prop := w.heap[g]? = some (.cells cs.toArray 36 (0,0))
def rlaid (cs : List Value) (rs : List T) (o : Nat) : List Value := cs.take (o * 3) ++ rs.flatMap rv ++ cs.drop ((o + rs.length) * 3)
def rcells (cs : List Value) : Array Value := cs.toArray
theorem Raw.laid {u : World} {g : Nat} {cs : List Value} (h : Raw u g cs) (ds : List Value) : Raw (u.setRow g (rcells ds)) g ds := setRow_heap u g _ _ 36 _ h
theorem Raw.drew {u : World} {g : Nat} {cs : List Value} (h : Raw u g cs) : Raw u.drew g cs := h
theorem flat_take : ∀ (M : List T) (o : Nat),(M.flatMap rv).take (o * 3) = (M.take o).flatMap rv
 | [],o => by simp
 | a :: l,0 => by simp
 | a :: l,o + 1 => by
  rw [List.flatMap_cons,List.take_succ_cons,List.flatMap_cons,show (o + 1) * 3 = (rv a).length + o * 3 by rw [rv_len]; omega,List.take_length_add_append,flat_take l o]
theorem own_raw {w : World} {B g n cap : Nat} {M : List T} (h : Own w B (.slice (some ⟨g,0,none⟩) n cap) M) : ∃ cs,Raw w g cs ∧ cs.length = cap * 3 ∧ cs.take (n * 3) = M.flatMap rv ∧ n = M.length ∧ n ≤ cap ∧ cap ≤ 9223372036854775807 ∧ B ≤ g := by
 rcases h.2 with ⟨h',_⟩ | ⟨g',cap',cur,h',hb,hg,hnc,hcm,hcs,htake⟩
 · cases h'
 ·
  simp only [Value.slice.injEq,Option.some.injEq,Addr.mk.injEq,and_true] at h'
  obtain ⟨e1,e2,e3⟩ := h'
  subst e1 e3
  refine ⟨cur.toList,?_,by rw [Array.length_toList,hcs],by rw [e2]; exact htake,e2,by rw [e2]; exact hnc,hcm,hb⟩
  unfold Raw
  rw [Array.toArray_toList]
  exact hg
theorem raw_own {w : World} {B g n cap : Nat} {M : List T} {cs : List Value} (h : Raw w g cs) (hl : cs.length = cap * 3) (ht : cs.take (n * 3) = M.flatMap rv) (hn : n = M.length) (hc : n ≤ cap) (hm : cap ≤ 9223372036854775807) (hB : B ≤ g) : Own w B (.slice (some ⟨g,0,none⟩) n cap) M := by
 subst hn
 exact ⟨by rw [flat_len],.inr ⟨g,cap,cs.toArray,rfl,hB,h,hc,by have : maxLen = 9223372036854775807 := rfl; omega,by rw [List.size_toArray,hl],by rw [List.toList_toArray]; exact ht⟩⟩
theorem zero_cells (n : Nat) : (Builtin.zeroCells zeroV.cells n).toList = (List.replicate n zero).flatMap rv := by
 have h := congrArg Array.toList (made n)
 unfold zeros at h
 rw [List.toList_toArray] at h
 exact h
theorem rlaid_len {cs : List Value} {rs : List T} {o : Nat} (h : (o + rs.length) * 3 ≤ cs.length) : (rlaid cs rs o).length = cs.length := by
 unfold rlaid
 rw [List.length_append,List.length_append,List.length_take,List.length_drop,flat_len,Nat.min_eq_left (by omega)]
 omega
theorem rlaid_take {cs : List Value} {rs : List T} {o : Nat} (h : o * 3 ≤ cs.length) : (rlaid cs rs o).take (o * 3) = cs.take (o * 3) := by
 unfold rlaid
 rw [List.append_assoc,List.take_left' (by rw [List.length_take]; omega)]
theorem slice_any (g n c k l c' : Nat) (x : Int) (hx : x = (k : Int)) (hk : k + l = n) (hc : k + c' = c) (hn : n ≤ c) (h63 : c ≤ 9223372036854775807) :
  ∃ A : Addr,(∀ u,(Instr.slice 28 (.slice (some ⟨g,0,none⟩) n c) (some (.int .i64 x)) none none).run Tryz.prog u = .ok (.slice (some A) l c') u) ∧ (0 < c' → A = ⟨g,k * 3,none⟩) := by
 by_cases h : 0 < c'
 · exact ⟨_,fun u => slice_from g n c k l c' x hx hk hc h hn h63 u,fun _ => rfl⟩
 ·
  refine ⟨⟨g,0,none⟩,fun u => ?_,fun z => absurd z h⟩
  subst hx
  rw [run_slice_l u 28 (some ⟨g,0,none⟩) n c und .i64 k (by omega) (by omega),size]
  have e1 : n - k = l := by omega
  have e2 : c - k = c' := by omega
  have e3 : c = k := by omega
  have e4 : k - k = c' := by omega
  simp [Result.andThen,sliced,e1,e3,← e4]
theorem append_raw (u : World) (g i cap : Nat) (cs : List Value) (A : Addr) (m c : Nat) (rs : List T) (hb : Raw u g cs) (hm : rs.length = m) (hroom : i + m ≤ cap) (hl : cs.length = cap * 3) (hA : ∀ j x,(rs.flatMap rv)[j]? = some x → u.cell? (A.add j) = some x) (ty : TypeId) :
  (Builtin.append_ #[28,28] ty #[.slice (some ⟨g,0,none⟩) i cap,.slice (some A) m c]).run Tryz.prog u = .ok (.slice (some ⟨g,0,none⟩) (i + m) cap) (u.setRow g (rcells (rlaid cs rs i))) := by
 obtain ⟨i0,hi0,hz0,hz1,hz2⟩ := info_parts info
 have hfl : (rs.flatMap rv).length = m * i0.size := by rw [flat_len,hm,hz1]
 have hfc := run_firstCells_some (P := Tryz.prog) u i0.size m A m c (rs.flatMap rv) hfl hA
 have hst := run_storeCells_at Tryz.prog g (0 + i * i0.size) 36 (rs.flatMap rv) 0 _ u hb (by rw [List.size_toArray,flat_len,hz1,hm]; omega) (one_cell rs)
 have e : (cs.toArray.toList.take (0 + i * i0.size + 0) ++ rs.flatMap rv ++ cs.toArray.toList.drop (0 + i * i0.size + 0 + (rs.flatMap rv).length)) = rlaid cs rs i := by
  rw [List.toList_toArray,flat_len,hz1,Nat.add_zero,Nat.zero_add,show i * 3 + rs.length * 3 = (i + rs.length) * 3 by omega]
  rfl
 rw [e,Nat.zero_add] at hst
 unfold rcells
 simp [Builtin.append_,run_underlying Tryz.underlying28,sizeOf,typeInfo,hi0,Builtin.lenOf,hroom,hfc,Addr.add_lit,hst]
theorem clear_raw (u : World) (g k m c : Nat) (cs : List Value) (hb : Raw u g cs) (hl : (k + m) * 3 ≤ cs.length) (h0 : 0 < m) (ty : TypeId) :
  (Builtin.clear_ #[28] ty #[.slice (some ⟨g,k * 3,none⟩) m c]).run Tryz.prog u = .ok (.tuple #[]) (u.setRow g (rcells (rlaid cs (List.replicate m zero) k))) := by
 have hst := run_storeCells_at Tryz.prog g (k * 3) 36 ((List.replicate m zero).flatMap rv) 0 _ u hb (by rw [List.size_toArray,flat_len,List.length_replicate]; omega) (one_cell _)
 have e : (cs.toArray.toList.take (k * 3 + 0) ++ (List.replicate m zero).flatMap rv ++ cs.toArray.toList.drop (k * 3 + 0 + ((List.replicate m zero).flatMap rv).length)) = rlaid cs (List.replicate m zero) k := by
  rw [List.toList_toArray,flat_len,Nat.add_zero,List.length_replicate]
  unfold rlaid
  rw [List.length_replicate,show k * 3 + m * 3 = (k + m) * 3 by omega]
 rw [e] at hst
 have hz : ∀ u,(zeroValue 36).run Tryz.prog u = .ok zeroV u := Tryz.zeroValue36
 unfold rcells
 obtain ⟨q,rfl⟩ : ∃ q,m = q + 1 := ⟨m - 1,by omega⟩
 simp only [Builtin.clear_,Sem.run_bind,Sem.run_pure,run_underlying Tryz.underlying28,Result.andThen_ok,List.getElem?_toArray,List.getElem?_cons_zero,hz,zero_cells,hst]
def CutE (w : World) (v : Value) (M : List T) (i : Nat) (e : Ending) (w' : World) : Prop := ∃ v',e = .returned v' ∧ Own w' 0 v' (M.take i) ∧ v'.ownBlock = v.ownBlock ∧ UpdQ (fun b => v.ownBlock = some b) w w'
set_option maxHeartbeats 4000000 in
theorem delete_tail (w : World) (ao : Option Addr) (n cap i : Nat) (M : List T) (h : Own w 0 (.slice ao n cap) M) (hi : i ≤ n) (hm : n ≤ 1000) :
  Calls Tryz.prog 187 #[.slice ao n cap,.int .i64 (i : Int),.int .i64 (n : Int)] w (CutE w (.slice ao n cap) M i) := by
 have hlen : n = M.length := by
  rcases h.2 with ⟨h1,h2⟩ | ⟨g,cap',cur,h1,_⟩
  ·
   simp only [Value.slice.injEq] at h1
   omega
  ·
   simp only [Value.slice.injEq] at h1
   exact h1.2.1
 have hnc' : n ≤ cap ∧ cap ≤ 9223372036854775807 := by
  rcases h.2 with ⟨h1,h2⟩ | ⟨g,cap',cur,h1,_,_,h3,h4,_⟩
  ·
   simp only [Value.slice.injEq] at h1
   omega
  ·
   simp only [Value.slice.injEq] at h1
   have : maxLen = 9223372036854775807 := rfl
   omega
 by_cases he : i = n
 ·
  subst he
  have hs0 : ∀ u,(Instr.slice 28 (.slice ao i cap) (some (.int .i64 (i : Int))) (some (.int .i64 (i : Int))) (some (.int .i64 (i : Int)))).run Tryz.prog u = .ok (.slice ao 0 0) u := fun u => by
   rw [run_slice_lhm u 28 ao i cap und .i64 .i64 .i64 i i i (by omega) (by omega) (by omega) (by omega),size]
   simp [Result.andThen,sliced]
  have HI : Hid (CutE w (.slice ao i cap) M i (.returned (.slice ao i cap)) w) := Lib.hid ⟨_,rfl,by rw [List.take_of_length_le (by omega)]; exact h,rfl,UpdQ.refl _ _⟩
  have hb : ((i : Int) == (i : Int)) = true := beq_self_eq_true _
  clear h hlen hi
  go_enter Tryz.func187,Tryz.ntmps187
  go_wp2
  go_ret
  exact HI.out
 obtain ⟨g,rfl⟩ : ∃ g,ao = some ⟨g,0,none⟩ := by
  rcases h.2 with ⟨h1,h2⟩ | ⟨g,cap',cur,h1,_⟩
  ·
   simp only [Value.slice.injEq] at h1
   omega
  ·
   simp only [Value.slice.injEq] at h1
   exact ⟨g,h1.1⟩
 obtain ⟨cs,hR,hl,ht,hn,hnc,hcm,_⟩ := own_raw h
 have hs0 : ∀ u,(Instr.slice 28 (.slice (some ⟨g,0,none⟩) n cap) (some (.int .i64 (i : Int))) (some (.int .i64 (n : Int))) (some (.int .i64 (n : Int)))).run Tryz.prog u = .ok (.slice (some ⟨g,i * 3,none⟩) (n - i) (n - i)) u := fun u => by
  rw [run_slice_lhm u 28 (some ⟨g,0,none⟩) n cap und .i64 .i64 .i64 i n n (by omega) (by omega) (by omega) (by omega),size]
  have e3 : ¬ n = i := by omega
  simp [Result.andThen,sliced,e3,Addr.add]
  intro z
  exact z.symm
 have hs1 := slice_to g n cap i (i : Int) rfl (by omega) hcm
 obtain ⟨A,hs2,hA⟩ := slice_any g n cap n 0 (cap - n) (n : Int) rfl (by omega) (by omega) (by omega) hcm
 obtain ⟨W1,hW1⟩ : ∃ W1,w.drew.setRow g (rcells (rlaid cs [] i)) = W1 := ⟨_,rfl⟩
 have hap : ∀ ty,(Builtin.append_ #[28,28] ty #[.slice (some ⟨g,0,none⟩) i cap,.slice (some A) 0 (cap - n)]).run Tryz.prog w.drew = .ok (.slice (some ⟨g,0,none⟩) i cap) W1 := fun ty => by
  have := append_raw w.drew g i cap cs A 0 (cap - n) [] hR.drew rfl (by omega) hl (fun j x hx => by simp at hx) ty
  rw [Nat.add_zero,hW1] at this
  exact this
 have hlen1 : (rlaid cs [] i).length = cap * 3 := by rw [rlaid_len (by simp; omega),hl]
 have hR1 : Raw W1 g (rlaid cs [] i) := hW1 ▸ hR.drew.laid _
 have hs3 : ∀ u,(Instr.slice 28 (.slice (some ⟨g,0,none⟩) i cap) (some (.int .i64 (i : Int))) (some (.int .i64 (n : Int))) none).run Tryz.prog u = .ok (.slice (some ⟨g,i * 3,none⟩) (n - i) (cap - i)) u := fun u => by
  rw [run_slice_lh u 28 (some ⟨g,0,none⟩) i cap und .i64 .i64 i n (by omega) (by omega) (by omega),size]
  have e3 : ¬ cap = i := by omega
  simp [Result.andThen,sliced,e3,Addr.add]
  intro z
  exact z.symm
 obtain ⟨W2,hW2⟩ : ∃ W2,W1.setRow g (rcells (rlaid (rlaid cs [] i) (List.replicate (n - i) zero) i)) = W2 := ⟨_,rfl⟩
 have hcl : ∀ ty c,(Builtin.clear_ #[28] ty #[.slice (some ⟨g,i * 3,none⟩) (n - i) c]).run Tryz.prog W1 = .ok (.tuple #[]) W2 := fun ty c => hW2 ▸ clear_raw W1 g i (n - i) c _ hR1 (by rw [hlen1]; omega) (by omega) ty
 have HI : Hid (CutE w (.slice (some ⟨g,0,none⟩) n cap) M i (.returned (.slice (some ⟨g,0,none⟩) i cap)) W2) := Lib.hid (by
  refine ⟨_,rfl,raw_own (cs := rlaid (rlaid cs [] i) (List.replicate (n - i) zero) i) ?_ ?_ ?_ ?_ (by omega) hcm (Nat.zero_le _),rfl,?_⟩
  ·
   rw [← hW2]
   exact hR1.laid _
  · rw [rlaid_len (by rw [hlen1,List.length_replicate]; omega),hlen1]
  · rw [rlaid_take (by rw [hlen1]; omega),rlaid_take (by omega),← flat_take,← ht,List.take_take,Nat.min_eq_left (by omega)]
  ·
   rw [List.length_take]
   omega
  ·
   rw [← hW2,← hW1]
   exact ((UpdQ.of (Below.refl _ _).drew).trans (UpdQ.row (Q := fun b => (Value.slice (some ⟨g,0,none⟩) n cap).ownBlock = some b) w.drew rfl _)).trans (UpdQ.row (Q := fun b => (Value.slice (some ⟨g,0,none⟩) n cap).ownBlock = some b) _ rfl _))
 have hin' : ((i : Int) == (n : Int)) = false := beq_eq_false_iff_ne.2 (by omega)
 clear h hR hl ht hn hW1 hW2 hR1 hlen1 hA hlen hnc'
 go_enter Tryz.func187,Tryz.ntmps187
 go_wp2_with fail
 go_region_law (refine step_append_run rfl (.tmp 22) (.tmp 25) 28 28 rfl _ _ (by simp [Act.eval,Act.put]) (by simp [Act.eval,Act.put]) _ _ (hap _) ?_)
 go_wp2_with fail
 go_ret
 exact HI.out
end Go.Proofs.YtmhmajoghbgcfaaGreatDoor.Et
