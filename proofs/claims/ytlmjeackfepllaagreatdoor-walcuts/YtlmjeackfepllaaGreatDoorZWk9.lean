import Derived.WalkKit
import Derived.Maps.AppendAt
import Derived.Laws.AppendOwnNone
import Derived.Laws.Rows
import Derived.RegionTactic
import Derived.SizedLaws
import Derived.Deep.Slices
import Derived.RangeFuncNested
import Derived.RangeFuncBound
import Derived.RangeFuncCalls
import Derived.RangeFuncLeaves
import Derived.Shelf.Abstract
import Derived.Shelf.RegionOpen
import Derived.OwnWalkIn
import Derived.TacticsInMore
import Derived.LoopNIn
import Derived.LoopIn
import Derived.Test.YtlmjeackfepllaaGreatDoorZWk1
import Derived.Test.YtlmjeackfepllaaGreatDoorZWk2
import Derived.Test.YtlmjeackfepllaaGreatDoorZWk4
import Derived.Test.YtlmjeackfepllaaGreatDoorZWk6
import Derived.Test.YtlmjeackfepllaaGreatDoorZWk7
import Derived.Test.YtlmjeackfepllaaGreatDoorZWk8
set_option linter.unusedVariables false
namespace Go.Proofs.YtlmjeackfepllaaGreatDoor.Dk
theorem own_eq {s : ByteArray} {l : List F} (hs : Sorted l) {f : F} (h : f ∈ l) (hn : f.name = s) : has s l = true ∧ own s l = f := by
 obtain ⟨i,hi,rfl⟩ := List.getElem_of_mem h
 have h1 : has s l = true := has_iff.2 ⟨i,hi,hn⟩
 have h2 := one_name hs hi hn
 refine ⟨h1,?_⟩
 rw [own_at hs h1]
 simp only [← h2]
theorem has_mem {s : ByteArray} {l : List F} : has s l = true ↔ ∃ f ∈ l,f.name = s := by
 unfold has
 rw [List.any_eq_true]
 exact ⟨fun ⟨f,a,b⟩ => ⟨f,a,of_decide_eq_true b⟩,fun ⟨f,a,b⟩ => ⟨f,a,decide_eq_true b⟩⟩
theorem mem_del {s : ByteArray} {l : List F} (hs : Sorted l) (hh : has s l = true) (g : F) : g ∈ del s l ↔ g ∈ l ∧ g.name ≠ s := by
 have hi := spot_lt hs hh
 constructor
 ·
  intro h
  refine ⟨del_mem h,fun e => ?_⟩
  unfold del at h
  rcases List.mem_append.1 h with h | h
  ·
   obtain ⟨j,hj,rfl⟩ := List.getElem_of_mem h
   rw [List.length_take] at hj
   rw [List.getElem_take] at e
   have := one_name hs (by omega) e
   omega
  ·
   obtain ⟨j,hj,rfl⟩ := List.getElem_of_mem h
   rw [List.length_drop] at hj
   rw [List.getElem_drop] at e
   have := one_name hs (by omega) e
   omega
 ·
  rintro ⟨h,hn⟩
  obtain ⟨j,hj,rfl⟩ := List.getElem_of_mem h
  have hne : j ≠ spot s l := fun e => hn (by subst e; exact spot_name hs hh)
  unfold del
  rw [List.mem_append]
  by_cases hlt : j < spot s l
  · exact .inl (List.mem_take_iff_getElem.2 ⟨j,by omega,rfl⟩)
  ·
   refine .inr (List.mem_drop_iff_getElem.2 ⟨j - (spot s l + 1),by omega,?_⟩)
   congr 1
   omega
theorem mem_put {f : F} {l : List F} (hs : Sorted l) (g : F) : g ∈ put f l ↔ g = f ∨ (g ∈ l ∧ g.name ≠ f.name) := by
 cases h : has f.name l
 ·
  have hno : ∀ x ∈ l,x.name ≠ f.name := fun x hx e => by
   have := has_mem.2 ⟨x,hx,e⟩
   rw [h] at this
   cases this
  rw [put_ins h,List.mem_append,List.mem_append,List.mem_singleton]
  constructor
  ·
   rintro (k | k | k)
   · exact .inr ⟨List.mem_of_mem_take k,hno _ (List.mem_of_mem_take k)⟩
   · exact .inl k
   · exact .inr ⟨List.mem_of_mem_drop k,hno _ (List.mem_of_mem_drop k)⟩
  ·
   rintro (k | ⟨k,_⟩)
   · exact .inr (.inl k)
   ·
    rw [← List.take_append_drop (spot f.name l) l] at k
    rcases List.mem_append.1 k with k | k
    · exact .inl k
    · exact .inr (.inr k)
 ·
  have e : g ∈ put f l ↔ g = f ∨ g ∈ del f.name l := by
   rw [put_set hs h]
   unfold del
   rw [List.mem_append,List.mem_append,List.mem_append,List.mem_singleton]
   constructor
   ·
    rintro (k | k | k)
    · exact .inr (.inl k)
    · exact .inl k
    · exact .inr (.inr k)
   ·
    rintro (k | k | k)
    · exact .inr (.inl k)
    · exact .inl k
    · exact .inr (.inr k)
  rw [e,mem_del hs h]
theorem same_own {s : ByteArray} {l m : List F} (hl : Sorted l) (hm : Sorted m) (h : ∀ g : F,g.name = s → (g ∈ m ↔ g ∈ l)) : has s m = has s l ∧ own s m = own s l := by
 cases k : has s l
 ·
  have k2 : has s m = false := by
   rw [Bool.eq_false_iff]
   intro z
   obtain ⟨f,hf,e⟩ := has_mem.1 z
   have := has_mem.2 ⟨f,(h f e).1 hf,e⟩
   rw [k] at this
   cases this
  exact ⟨k2,by rw [own_no k2,own_no k]⟩
 ·
  have h1 := own_mem hl k
  have h2 := own_name (s := s) hl
  obtain ⟨a,b⟩ := own_eq hm ((h _ h2).2 h1) h2
  exact ⟨a,b⟩
theorem put_other {s : ByteArray} {f : F} {l : List F} (hs : Sorted l) (hn : f.name ≠ s) : has s (put f l) = has s l ∧ own s (put f l) = own s l :=
 same_own hs (put_sorted hs) fun g e => by
  rw [mem_put hs]
  constructor
  ·
   rintro (k | k)
   · exact absurd (k ▸ e) hn
   · exact k.1
  · exact fun k => .inr ⟨k,fun z => hn (z ▸ e)⟩
theorem del_other {s t : ByteArray} {l : List F} (hs : Sorted l) (hh : has t l = true) (hn : t ≠ s) : has s (del t l) = has s l ∧ own s (del t l) = own s l :=
 same_own hs (del_sorted hs) fun g e => by
  rw [mem_del hs hh]
  exact ⟨fun k => k.1,fun k => ⟨k,fun z => hn (z.symm.trans e)⟩⟩
theorem del_self {s : ByteArray} {l : List F} (hs : Sorted l) (hh : has s l = true) : has s (del s l) = false := by
 rw [Bool.eq_false_iff]
 intro z
 obtain ⟨f,hf,e⟩ := has_mem.1 z
 exact ((mem_del hs hh f).1 hf).2 e
section
variable {d : D} {s : ByteArray}
def Same (s : ByteArray) (d d' : D) : Prop := has s d'.fs = has s d.fs ∧ own s d'.fs = own s d.fs
theorem Same.refl (s : ByteArray) (d : D) : Same s d d := ⟨rfl,rfl⟩
theorem app_other (h : Ok d) {t : ByteArray} (ht : t ≠ s) (zs : List UInt8) : Same s d (appD d t zs).2 := by
 unfold appD
 split
 · exact Same.refl _ _
 split
 · exact Same.refl _ _
 split
 · exact Same.refl _ _
 split
 · exact Same.refl _ _
 exact put_other h.sorted ht
theorem sync_other (h : Ok d) {t : ByteArray} (ht : t ≠ s) : Same s d (syncD d t).2 := by
 unfold syncD
 split
 · exact Same.refl _ _
 split
 · exact Same.refl _ _
 split
 · exact Same.refl _ _
 exact put_other h.sorted ht
theorem rem_other (h : Ok d) {t : ByteArray} (ht : t ≠ s) : Same s d (remD d t).2 := by
 unfold remD
 split
 · exact Same.refl _ _
 split
 · exact Same.refl _ _
 rename_i k
 split
 · exact Same.refl _ _
 exact del_other h.sorted (by simpa using k) ht
theorem ren_other (h : Ok d) {t u : ByteArray} (ht : t ≠ s) (hu : u ≠ s) : Same s d (renD d t u).2 := by
 unfold renD
 split
 · exact Same.refl _ _
 split
 · exact Same.refl _ _
 split
 · exact Same.refl _ _
 rename_i k
 split
 · exact Same.refl _ _
 have h1 := del_other h.sorted (by simpa using k) ht
 have h2 := put_other (s := s) (f := ⟨u,(own t d.fs).bs,(own t d.fs).kept⟩) (del_sorted (s := t) h.sorted) hu
 exact ⟨h2.1.trans h1.1,h2.2.trans h1.2⟩
end
end Go.Proofs.YtlmjeackfepllaaGreatDoor.Dk
set_option maxRecDepth 100000
namespace Go.Proofs.YtlmjeackfepllaaGreatDoor.St
open Go.RowKit
open Mem
theorem info : (Tryz.prog.info? 9).map (fun i => (i.zero,i.size,i.bytes)) = some (some (.string .empty),1,16) := by kernel_rfl
def Own (w : World) (B : Nat) (v : Value) (xs : List ByteArray) : Prop := w.ownsRow B 9 1 v xs.length (xs.map Value.string)
def zeros (n : Nat) : Array Value := (List.replicate n (Value.string .empty)).toArray
theorem made (n : Nat) : madeCells (Value.string .empty).cells (n * 1) = zeros n := by
 apply Array.ext_getElem?
 intro j
 unfold madeCells zeros
 rw [Array.getElem?_map,Array.getElem?_range,List.getElem?_toArray,List.getElem?_replicate,Nat.mul_one]
 split
 ·
  simp only [Option.map_some]
  rw [show (Value.string .empty).cells.size = 1 from rfl,Nat.mod_one]
  rfl
 · rfl
theorem make_cap (n : Nat) (hn : n ≤ 1000) (u : World) : (Instr.makeSlice 33 (.int .i64 0) (.int .i64 (n : Int))).run Tryz.prog u =
  .ok (.slice (some ⟨u.heap.size,0,none⟩) 0 n) (u.alloc (.cells (zeros n) 9)) := by
 obtain ⟨i0,hi,hz0,hz1,hz2⟩ := info_parts info
 have h := run_make (P := Tryz.prog) u 33 9 i0 (.string .empty) Tryz.underlying33 hi hz0 .i64 .i64 0 (n : Int) (by omega) (by omega) (by rw [hz2]; omega) (by omega)
 rw [hz1,Int.toNat_natCast,made] at h
 exact h
theorem own_cap (u : World) (B c : Nat) (hB : B ≤ u.heap.size) (hc : c ≤ 1000) : Own (u.alloc (.cells (zeros c) 9)) B (.slice (some ⟨u.heap.size,0,none⟩) 0 c) [] :=
 ⟨rfl,.inr ⟨u.heap.size,c,zeros c,rfl,hB,heap_alloc_new u _,Nat.zero_le _,by have : maxLen = 9223372036854775807 := rfl; omega,by unfold zeros; rw [List.size_toArray,List.length_replicate]; omega,rfl⟩⟩
theorem own_nil (w : World) (B : Nat) : Own w B (.slice none 0 0) [] := ⟨rfl,.inl ⟨rfl,rfl⟩⟩
theorem cell_one (u : World) (v : Value) (t : TypeId) (j : Nat) (z : Value) (h : [v][j]? = some z) : (u.alloc (.cells #[v] t)).cell? ((⟨u.heap.size,0,none⟩ : Addr).add j) = some z := by
 rcases j with _ | j
 ·
  simp only [List.getElem?_cons_zero,Option.some.injEq] at h
  subst h
  simp [Addr.add,go_sem]
 · simp at h
theorem app {ops : Array Oper} {rest : List Oper} {o : Oper} {a : Act} {Q : Exit → Act → World → Prop} (u : World) (x : ByteArray) (hgd : o.guard = none) (s t : Operand)
  (ho : o.op = .call { callee := .builtin .append,args := #[s,t],argTypes := #[33,33] }) (B : Nat) (v : Value) (xs : List ByteArray) (hs : a.eval s = v) (hown : Own u B v xs)
  (hx : a.eval t = .slice (some ⟨u.heap.size,0,none⟩) 1 1) (hm : xs.length ≤ 100000) (hB : B ≤ u.heap.size)
  (h : ∀ v' w1,Own w1 B v' (xs ++ [x]) → (u.alloc (.cells #[.string x] 9)).grownBy w1 v.ownBlock → wpList Tryz.prog ops Q rest (a.put o.dst v') w1) :
  wpList Tryz.prog ops Q (o :: rest) a (u.alloc (.cells #[.string x] 9)) := by
 obtain ⟨i0,hi,hz0,hz1,hz2⟩ := info_parts info
 have hmx : maxLen = 9223372036854775807 := rfl
 refine wpList_append_own_at (w := u.alloc (.cells #[.string x] 9)) hgd s t 33 ho B 9 i0 (.string .empty) 1 16 Tryz.underlying33 hi hz0 hz1 hz2 rfl (by omega) v xs.length (xs.map Value.string) hs (World.ownsRow.alloc hown _) ⟨u.heap.size,0,none⟩ 1 1 [.string x] hx rfl (cell_one u _ _) (fun z hz => by rw [List.mem_singleton.1 hz]; rfl) (by omega) (by omega) (by simp; omega) ?_
 intro v' w' h1 h2 _ h3
 refine h v' w' ?_ h2
 unfold Own
 rw [List.length_append,List.map_append]
 exact h1
variable {w u : World} {B : Nat} {v : Value} {xs : List ByteArray}
theorem Own.below (h : Own w B v xs) (k : Below w.heap.size w u) : Own u B v xs := by
 obtain ⟨h1,h2⟩ := h
 refine ⟨h1,?_⟩
 rcases h2 with h2 | ⟨g,cap,cur,h',hb,hg,h3⟩
 · exact .inl h2
 ·
  have hl : g < w.heap.size := (Array.getElem?_eq_some_iff.1 hg).1
  exact .inr ⟨g,cap,cur,h',hb,(k.block g hl).trans hg,h3⟩
theorem own_ge (h : Own w B v xs) : ∀ k,v.ownBlock = some k → B ≤ k := by
 intro k hk
 rcases h.2 with ⟨h',_⟩ | ⟨g,cap,cur,h',hb,_⟩
 ·
  rw [h'] at hk
  cases hk
 ·
  rw [h'] at hk
  simp only [Value.ownBlock,Option.some.injEq] at hk
  omega
structure Ls (w : World) (ao : Option Addr) (n cap : Nat) (xs : List ByteArray) : Prop where
 len : n = xs.length
 fits : n ≤ cap
 reach : cap ≤ 9223372036854775807
 seg : xs = [] ∨ ∃ b off,ao = some ⟨b,off,none⟩ ∧ ∀ (k : Nat) (hk : k < xs.length),w.cell? ⟨b,off + k,none⟩ = some (.string xs[k])
theorem Ls.below {ao : Option Addr} {n cap : Nat} (h : Ls w ao n cap xs) (k : Below w.heap.size w u) : Ls u ao n cap xs := by
 refine ⟨h.len,h.fits,h.reach,?_⟩
 rcases h.seg with e | ⟨b,off,e,hc⟩
 · exact .inl e
 · exact .inr ⟨b,off,e,fun i hi => by rw [(bcell k).1 _ _ (cell_lt (hc i hi))]; exact hc i hi⟩
theorem Ls.at {ao : Option Addr} {n cap : Nat} (h : Ls w ao n cap xs) (hn : 0 < n) : ∃ b off,ao = some ⟨b,off,none⟩ := by
 rcases h.seg with e | ⟨b,off,e,hc⟩
 ·
  have := h.len
  rw [e] at this
  simp only [List.length_nil] at this
  omega
 · exact ⟨b,off,e⟩
theorem Ls.row {b off n cap : Nat} (h : Ls w (some ⟨b,off,none⟩) n cap xs) (k : Nat) (hk : k < xs.length) : w.cell? ⟨b,off + k,none⟩ = some (.string xs[k]) := by
 rcases h.seg with e | ⟨b',off',e,hc⟩
 ·
  rw [e] at hk
  cases hk
 ·
  cases e
  exact hc k hk
theorem own_ls (h : Own w B v xs) : ∃ ao cap,v = .slice ao xs.length cap ∧ Ls w ao xs.length cap xs := by
 rcases h.2 with ⟨h',h2⟩ | ⟨g,cap,cur,h',hb,hg,hnc,hcm,hcs,htake⟩
 ·
  have e : xs = [] := List.length_eq_zero_iff.1 h2
  subst e
  exact ⟨none,0,h',rfl,Nat.le_refl _,by omega,.inl rfl⟩
 ·
  refine ⟨_,cap,h',rfl,hnc,hcm,?_⟩
  refine .inr ⟨g,0,rfl,fun k hk => ?_⟩
  rw [Nat.zero_add,cell_of_row w g k _ _ _ hg]
  have h5 : (cur.toList.take (xs.length * 1))[k]? = (xs.map Value.string)[k]? := by rw [htake]
  rw [List.getElem?_take_of_lt (by omega),List.getElem?_map,List.getElem?_eq_getElem hk] at h5
  simpa using h5
end Go.Proofs.YtlmjeackfepllaaGreatDoor.St
namespace Go.Proofs.YtlmjeackfepllaaGreatDoor
open Go.RowKit
open Mem Dk
def Dk.names (fs : List F) : List ByteArray := fs.map F.name
def Dk.NamesE (w : World) (fs : List F) (e : Ending) (w' : World) : Prop := ∃ v,e = .returned v ∧ St.Own w' w.heap.size v (names fs) ∧ Below w.heap.size w w'
theorem Dk.names_take {fs : List F} {k : Nat} (h : k < fs.length) : names (fs.take (k + 1)) = names (fs.take k) ++ [fs[k].name] := by
 unfold names
 rw [List.take_succ_eq_append_getElem h,List.map_append]
 rfl
set_option maxHeartbeats 2000000 in
theorem dk_names {P : Nat → Prop} {w : World} {p : Nat} {d : D} {v : Sl} {L : Int} {rs : List Fl.T} (h : At P w p d v L rs) :
  Calls Tryz.prog 13 #[.pointer (some ⟨p,0,none⟩)] w (NamesE w d.fs) := by
 have HA := Lib.hid h
 have HL := Lib.hid h.ls
 have HBx := Lib.hid h.box
 obtain ⟨c0,c1,c2,c3⟩ := h.box.cells
 obtain ⟨n1,n2,n3,n4⟩ := h.n
 have HN := Lib.hid n4
 have HN1 := Lib.hid n1
 obtain ⟨ao,n,cap⟩ := v
 simp only at c0 n2 n3 HN HN1
 have hfew : n ≤ 1000 := by
  have h1 := h.few
  have h2 := HN1.out
  omega
 have hmk := St.make_cap n hfew w
 have c0' : (w.alloc (.cells (St.zeros n) 9)).cell? ⟨p,0,none⟩ = some (.slice ao n cap) := by
  rw [(bcell ((Below.refl w.heap.size w).alloc (Nat.le_refl _) _)).1 _ _ h.box.lt]
  exact c0
 have HO0 := Lib.hid (St.own_cap w w.heap.size n (Nat.le_refl _) hfew)
 have HB0 := Lib.hid ((Below.refl w.heap.size w).alloc (Nat.le_refl _) (.cells (St.zeros n) 9))
 clear h n1 n4
 go_enter Tryz.func13,Tryz.ntmps13
 go_wp2_with fail
 clear c0 c1 c2 c3 hmk c0'
 go_loopw [3,5,17] (fun t _ j wr => ∃ k : Nat,k ≤ n ∧ j = .int .i64 k ∧ Hid (St.Own wr w.heap.size t (names (d.fs.take k))) ∧ Hid (Below w.heap.size w wr)) (fun _ _ j _ => n - (intOf j).toNat)
 case atStart => exact ⟨0,by omega,rfl,HO0,HB0⟩
 case round =>
  rename World => wz
  obtain ⟨k,hk,rfl,HT,HB⟩ := hrel
  by_cases hlt : k < n
  ·
   obtain ⟨b,off,rfl⟩ := HL.out.at (by omega)
   have hkr : k < rs.length := HN.out ▸ hlt
   have hkf : k < d.fs.length := HA.out.each.len ▸ hkr
   have hrow := (HL.out.row k hkr).below HB.out
   have HS := Lib.hid (Dk.names_take hkf)
   have HNm := Lib.hid (HA.out.each.name k hkr)
   obtain ⟨r,hr⟩ : ∃ r,rs[k] = r := ⟨_,rfl⟩
   rw [hr] at hrow HNm
   clear hr
   obtain ⟨g0,g1,g2⟩ := hrow
   obtain ⟨W,hW,hbW,hA⟩ := Fl.boxed1 wz r
   have HBW := Lib.hid (bchain HB.out hbW)
   have HOW := Lib.hid (HT.out.below hbW)
   have hle : Hid ((names (d.fs.take k)).length ≤ 100000) := Lib.hid (by
    unfold names
    rw [List.length_map,List.length_take]
    omega)
   unfold Fl.C at hA
   obtain ⟨a0,a1,a2⟩ := hA
   clear hbW HT HB
   go_wp2_with (at_builtin; go_must (refine St.app W r.name rfl (.tmp 21) (.tmp 24) rfl w.heap.size _ (names (d.fs.take k)) rfl HOW.out rfl hle.out HBW.out.size ?_))
   intro v' w1 ho gr
   have HO1 : Hid (St.Own w1 w.heap.size v' (names (d.fs.take (k + 1)))) := Lib.hid (by rw [HS.out,← HNm.out]; exact ho)
   have HB1 : Hid (Below w.heap.size w w1) := Lib.hid ((HBW.out.alloc HBW.out.size _).grown gr (by have := HBW.out.size; simp; omega) (St.own_ge HOW.out))
   clear ho gr
   go_wp2_with fail
   go_roundw
   case rel => exact ⟨k + 1,by omega,by go_num,HO1,HB1⟩
   case measure => simp [intOf]; omega
  ·
   obtain rfl : k = n := by omega
   have HM : Hid (names (d.fs.take k) = names d.fs) := Lib.hid (by
    rw [List.take_of_length_le (by have := HN1.out; omega)])
   have HF : Hid (St.Own wz w.heap.size _ (names d.fs)) := Lib.hid (by rw [← HM.out]; exact HT.out)
   clear HT
   go_wp2_with fail
   go_ret
   exact ⟨_,rfl,HF.out,HB.out⟩
theorem s_names {P : Nat → Prop} {w0 w : World} {p : Nat} {d : D} (h : S P w0 w p d) : Calls Tryz.prog 13 #[.pointer (some ⟨p,0,none⟩)] w (NamesE w d.fs) := by
 obtain ⟨v,L,rs,k⟩ := h.dsk
 exact dk_names k
theorem s_total {P : Nat → Prop} {w0 w : World} {p : Nat} {d : D} (h : S P w0 w p d) : Calls Tryz.prog 68 #[.pointer (some ⟨p,0,none⟩)] w fun e w' => e = .returned (.int .i64 (total d.fs : Nat)) ∧ Below w.heap.size w w' := by
 obtain ⟨v,L,rs,k⟩ := h.dsk
 exact dk_total k
end Go.Proofs.YtlmjeackfepllaaGreatDoor
namespace Go.Proofs.YtlmjeackfepllaaGreatDoor
open Go.RowKit
open Mem Dk
theorem Dk.ints_one (w : World) (x : Int) (hx : Fit x) : Ints (w.alloc (.cells #[.int .i64 x] 3)) (some ⟨w.heap.size,0,none⟩) 1 1 [x] :=
 ⟨rfl,Nat.le_refl _,by omega,.inr ⟨w.heap.size,0,rfl,fun k hk => by
  obtain rfl : k = 0 := by simpa using hk
  rw [cell_of_row _ _ _ _ _ _ (heap_alloc_new w _)]
  rfl⟩,fun z hz => by rw [List.mem_singleton.1 hz]; exact hx⟩
theorem Dk.run_c (pk : Nat) : crashD ⟨[⟨na,[1,2,3,4,5],3⟩],false,-1⟩ [(pk : Int)] = ⟨[tear ⟨na,[1,2,3,4,5],3⟩ pk],false,-1⟩ := rfl
def Dk.nb : ByteArray := ⟨#[98]⟩
def Dk.nab : ByteArray := ⟨#[97,32,98]⟩
def Dk.nq : ByteArray := ⟨#[113]⟩
theorem Dk.nb_ok : nameOk nb = true := by decide
theorem Dk.nab_no : nameOk nab = false := by decide
theorem Dk.q_no : has nq [⟨na,[1],0⟩] = false := by decide
theorem Dk.b_no : has nb [⟨na,[1],0⟩] = false := by decide
theorem Dk.run_1 : renD ⟨[⟨na,[1],0⟩],false,-1⟩ na nab = (19,⟨[⟨na,[1],0⟩],false,-1⟩) := by
 unfold renD
 rw [if_neg Bool.false_ne_true,if_pos nab_no]
theorem Dk.run_2 : cutD ⟨[⟨na,[1],0⟩],false,-1⟩ na 99 = (1,⟨[⟨na,[1],0⟩],false,-1⟩) := by
 unfold cutD
 rw [if_neg Bool.false_ne_true,if_neg (by rw [show has na _ = true from one_has na [1] 0]; exact fun z => by cases z),if_pos (.inr (by simp only [one_own]; decide))]
theorem Dk.run_3 : syncD ⟨[⟨na,[1],0⟩],false,-1⟩ nq = (11,⟨[⟨na,[1],0⟩],false,-1⟩) := by
 unfold syncD
 rw [if_neg Bool.false_ne_true,if_pos q_no]
theorem Dk.run_4 : appD ⟨[⟨na,[1],0⟩],false,1⟩ nb [1] = (0,⟨put ⟨nb,[1],0⟩ [⟨na,[1],0⟩],false,0⟩) := by
 unfold appD
 rw [if_neg Bool.false_ne_true,if_neg (by rw [nb_ok]; exact fun z => by cases z),if_neg (by decide),if_neg (by decide)]
 simp only [own_no b_no,with',List.nil_append]
 rfl
theorem Dk.run_5 : syncD ⟨put ⟨nb,[1],0⟩ [⟨na,[1],0⟩],false,0⟩ nb = (18,⟨put ⟨nb,[1],0⟩ [⟨na,[1],0⟩],true,0⟩) := by
 unfold syncD
 have h := (put_spot (f := ⟨nb,[1],0⟩) (l := [⟨na,[1],0⟩]) (List.pairwise_singleton _ _)).2.1
 rw [if_neg Bool.false_ne_true,if_neg (by rw [show has nb _ = true from h]; exact fun z => by cases z),if_pos rfl]
 rfl
theorem Dk.run_6 : appD ⟨put ⟨nb,[1],0⟩ [⟨na,[1],0⟩],true,0⟩ nb [2] = (18,⟨put ⟨nb,[1],0⟩ [⟨na,[1],0⟩],true,0⟩) := by
 unfold appD
 rw [if_pos rfl]
theorem Dk.torn_1 : tornD 1 = [1,2,3,4] := by decide
theorem Dk.torn_4 : tornD 4 = [1,2,3,251] := by decide
theorem Dk.torn_5 : tornD 5 = [1,2,3,4,250] := by decide
theorem Dk.same_new (w : World) (g : Nat) (xs ys : List UInt8) (h : By.Block w g xs) (hx : xs.length ≤ 1000) (hy : ys.length ≤ 1000) (n m : Nat) (hn : n = xs.length) (hm : m = ys.length) (cs : Array Value) (hcs : cs = (ys.map By.bv).toArray) :
  Calls Tryz.prog 65 #[.slice (some ⟨g,0,none⟩) n n,.slice (some ⟨w.heap.size,0,none⟩) m m] (w.alloc (.cells cs 5)) fun e w' => e = .returned (.bool (decide (xs = ys))) ∧ Below w.heap.size w w' := by
 subst hn hm hcs
 have k : Below w.heap.size w (w.alloc (.cells (ys.map By.bv).toArray 5)) := (Below.refl _ _).alloc (Nat.le_refl _) _
 have hb : By.Block (w.alloc (.cells (ys.map By.bv).toArray 5)) w.heap.size ys := heap_alloc_new w _
 refine (By.same_any xs ys _ _ _ _ _ _ _ ((h.below k).ls (by omega)) (hb.ls (by omega))).mono ?_
 rintro e w' ⟨rfl,b⟩
 exact ⟨rfl,bchain k b⟩
end Go.Proofs.YtlmjeackfepllaaGreatDoor
namespace Go.Proofs.YtlmjeackfepllaaGreatDoor.As
open Go.RowKit
open Mem
structure T where
 kind : Int
 n : Int
 name : ByteArray
 to : ByteArray
 data : Sl
 picks : Sl
def Short (r : T) : Prop := Fit r.kind ∧ Fit r.n ∧ r.name.size ≤ 140737488355328 ∧ r.to.size ≤ 140737488355328
def C (u : World) (b : Nat) (r : T) : Prop :=
 u.cell? ⟨b,0,none⟩ = some (.int .i64 r.kind) ∧ u.cell? ⟨b,1,none⟩ = some (.int .i64 r.n) ∧ u.cell? ⟨b,2,none⟩ = some (.string r.name) ∧ u.cell? ⟨b,3,none⟩ = some (.string r.to) ∧ u.cell? ⟨b,4,none⟩ = some (.slice r.data.ao r.data.n r.data.cap) ∧ u.cell? ⟨b,5,none⟩ = some (.slice r.picks.ao r.picks.n r.picks.cap)
theorem C.below {u v : World} {b : Nat} {r : T} (h : C u b r) (k : Below u.heap.size u v) : C v b r := by
 obtain ⟨h0,h1,h2,h3,h4,h5⟩ := h
 have hl := cell_lt h0
 unfold C
 rw [(bcell k).1 _ _ hl,(bcell k).1 _ _ hl,(bcell k).1 _ _ hl,(bcell k).1 _ _ hl,(bcell k).1 _ _ hl,(bcell k).1 _ _ hl]
 exact ⟨h0,h1,h2,h3,h4,h5⟩
end Go.Proofs.YtlmjeackfepllaaGreatDoor.As
namespace Go.Proofs.YtlmjeackfepllaaGreatDoor.As
open Go.RowKit
open Mem
structure At (u : World) (b o : Nat) (r : T) : Prop where
 c0 : u.cell? ⟨b,o,none⟩ = some (.int .i64 r.kind)
 c1 : u.cell? ⟨b,o + 1,none⟩ = some (.int .i64 r.n)
 c2 : u.cell? ⟨b,o + 2,none⟩ = some (.string r.name)
 c3 : u.cell? ⟨b,o + 3,none⟩ = some (.string r.to)
 c4 : u.cell? ⟨b,o + 4,none⟩ = some (.slice r.data.ao r.data.n r.data.cap)
 c5 : u.cell? ⟨b,o + 5,none⟩ = some (.slice r.picks.ao r.picks.n r.picks.cap)
theorem At.below {u v : World} {b o : Nat} {r : T} (h : At u b o r) (k : Below u.heap.size u v) : At v b o r := by
 have hl := cell_lt h.c0
 exact ⟨by rw [(bcell k).1 _ _ hl]; exact h.c0,by rw [(bcell k).1 _ _ hl]; exact h.c1,by rw [(bcell k).1 _ _ hl]; exact h.c2,by rw [(bcell k).1 _ _ hl]; exact h.c3,by rw [(bcell k).1 _ _ hl]; exact h.c4,by rw [(bcell k).1 _ _ hl]; exact h.c5⟩
def Seg (w : World) (ao : Option Addr) (rs : List T) : Prop := rs = [] ∨ ∃ b off,ao = some ⟨b,off,none⟩ ∧ ∀ (k : Nat) (hk : k < rs.length),At w b (off + k * 6) rs[k]
theorem Seg.below {w v : World} {ao : Option Addr} {rs : List T} (h : Seg w ao rs) (k : Below w.heap.size w v) : Seg v ao rs := by
 rcases h with h | ⟨b,off,e,h⟩
 · exact .inl h
 · exact .inr ⟨b,off,e,fun i hi => (h i hi).below k⟩
structure Ls (w : World) (ao : Option Addr) (n cap : Nat) (rs : List T) : Prop where
 len : n = rs.length
 fits : n ≤ cap
 reach : cap ≤ 9223372036854775807
 nil : ao = none → cap = 0
 seg : Seg w ao rs
 short : ∀ r ∈ rs,Short r
theorem Ls.below {w v : World} {ao : Option Addr} {n cap : Nat} {rs : List T} (h : Ls w ao n cap rs) (k : Below w.heap.size w v) : Ls v ao n cap rs :=
 ⟨h.len,h.fits,h.reach,h.nil,h.seg.below k,h.short⟩
theorem Ls.at {w : World} {ao : Option Addr} {n cap : Nat} {rs : List T} (h : Ls w ao n cap rs) (hn : 0 < n) : ∃ b off,ao = some ⟨b,off,none⟩ := by
 rcases h.seg with e | ⟨b,off,e,_⟩
 ·
  have := h.len
  rw [e] at this
  simp at this
  omega
 · exact ⟨b,off,e⟩
theorem Ls.row {w : World} {b off n cap : Nat} {rs : List T} (h : Ls w (some ⟨b,off,none⟩) n cap rs) (k : Nat) (hk : k < rs.length) : At w b (off + k * 6) rs[k] := by
 rcases h.seg with e | ⟨b',off',e,hs⟩
 ·
  subst e
  simp at hk
 ·
  cases e
  exact hs k hk
theorem ls_nil (w : World) : Ls w none 0 0 [] := ⟨rfl,Nat.le_refl _,by omega,fun _ => rfl,.inl rfl,by simp⟩
end Go.Proofs.YtlmjeackfepllaaGreatDoor.As
namespace Go.Proofs.YtlmjeackfepllaaGreatDoor.As
open Go.RowKit
open Mem
def rv (r : T) : List Value := [.int .i64 r.kind,.int .i64 r.n,.string r.name,.string r.to,.slice r.data.ao r.data.n r.data.cap,.slice r.picks.ao r.picks.n r.picks.cap]
theorem rv_len (r : T) : (rv r).length = 6 := rfl
theorem flat_len : ∀ rs : List T,(rs.flatMap rv).length = rs.length * 6
 | [] => rfl
 | r :: l => by
  rw [List.flatMap_cons,List.length_append,rv_len,flat_len l,List.length_cons]
  omega
theorem flat_at : ∀ (rs : List T) (k p : Nat) (hk : k < rs.length),p < 6 → (rs.flatMap rv)[k * 6 + p]? = (rv rs[k])[p]?
 | r :: l,0,p,_,hp => by
  rw [List.flatMap_cons,List.getElem?_append_left (by rw [rv_len]; omega),Nat.zero_mul,Nat.zero_add]
  rfl
 | r :: l,k + 1,p,hk,hp => by
  rw [List.flatMap_cons,List.getElem?_append_right (by rw [rv_len]; omega),rv_len,show (k + 1) * 6 + p - 6 = k * 6 + p by omega]
  exact flat_at l k p (by simpa using hk) hp
theorem one_cell (rs : List T) : ∀ v ∈ rs.flatMap rv,v.oneCell' = true := by
 intro v hv
 obtain ⟨r,_,h⟩ := List.mem_flatMap.1 hv
 unfold rv at h
 simp only [List.mem_cons,List.not_mem_nil,or_false] at h
 rcases h with rfl | rfl | rfl | rfl | rfl | rfl <;> rfl
theorem news_of {w : World} {b off : Nat} {rs : List T} (h : ∀ (k : Nat) (hk : k < rs.length),At w b (off + k * 6) rs[k]) (j : Nat) (u : Value) (hu : (rs.flatMap rv)[j]? = some u) : w.cell? ((⟨b,off,none⟩ : Addr).add j) = some u := by
 have hj : j < (rs.flatMap rv).length := by
  obtain ⟨hj,_⟩ := List.getElem?_eq_some_iff.1 hu
  exact hj
 rw [flat_len] at hj
 obtain ⟨k,p,rfl,hp⟩ : ∃ k p,j = k * 6 + p ∧ p < 6 := ⟨j / 6,j % 6,by omega,by omega⟩
 have hk : k < rs.length := by omega
 rw [flat_at rs k p hk hp] at hu
 have ha : (⟨b,off,none⟩ : Addr).add (k * 6 + p) = ⟨b,off + k * 6 + p,none⟩ := by
  unfold Addr.add
  split
  ·
   rename_i e
   simp only [Addr.mk.injEq,true_and,and_true]
   omega
  ·
   simp only [Addr.mk.injEq,true_and,and_true]
   omega
 rw [ha]
 obtain ⟨c0,c1,c2,c3,c4,c5⟩ := h k hk
 have hp' : p = 0 ∨ p = 1 ∨ p = 2 ∨ p = 3 ∨ p = 4 ∨ p = 5 := by omega
 unfold rv at hu
 rcases hp' with rfl | rfl | rfl | rfl | rfl | rfl
 all_goals simp at hu
 all_goals subst hu
 · exact c0
 · exact c1
 · exact c2
 · exact c3
 · exact c4
 · exact c5
def zero : T := ⟨0,0,.empty,.empty,⟨none,0,0⟩,⟨none,0,0⟩⟩
def zeroV : Value := .agg #[.int .i64 0,.int .i64 0,.string .empty,.string .empty,.slice none 0 0,.slice none 0 0]
end Go.Proofs.YtlmjeackfepllaaGreatDoor.As
namespace Go.Proofs.YtlmjeackfepllaaGreatDoor.By
open Go.ChangeShapes Go.WideShapes Go.ChangeAt Go.RowKit
theorem cellsOf8 : Tryz.prog.cellsOf 5 = 1 := by kernel_rfl
theorem bytesOf8 : Tryz.prog.bytesOf 5 = 1 := by kernel_rfl
theorem list_in {H : Type} {enc : TypeId × Value → H} {W : World} {ao : Option Addr} {n cap : Nat} {d : DataW H} {p : List MemPlace} {ts : List TypeId} {ds : List (DataW H)} (j : Nat)
  (hj : DataW.Trod enc Tryz.prog W 0 (fun _ => true) true 59 (.slice ao n cap) d p)
  (hsz : (DataW.weightsEach Tryz.prog ts ds).all (· ≤ reachBytes) = true) (ht : ts[j]? = some 59) (hd : ds[j]? = some d) : ∃ bs,Ls W ao n cap bs ∧ n ≤ 140737488351232 := by
 obtain ⟨fuel,hf⟩ := hj
 rcases open_ints Tryz.underlying59 Tryz.underlying5 cellsOf8 hf with ⟨hcs,_⟩ | ⟨x,l,c,zs,hcs,_,hl,hm,hz,hx,hcell,hwz⟩
 ·
  simp [Value.cells] at hcs
  obtain ⟨rfl,rfl,rfl⟩ := hcs
  exact ⟨[],ls_nil W,by omega⟩
 ·
  simp [Value.cells] at hcs
  obtain ⟨rfl,rfl,rfl⟩ := hcs
  simp only [if_true] at hz
  have hd' := congrArg Prod.fst hx
  simp only at hd'
  rw [hd'] at hd
  have hr := sized_slice hsz ht hd Tryz.underlying59
  rw [bytesOf8] at hr
  simp only [lits,List.length_map,List.length_take,List.length_drop,reachBytes] at hr
  refine ⟨(zs.take n).map fun z => UInt8.ofNat z.toNat,⟨by simp; omega,hl,by omega,(fun h => by cases h),?_⟩,by omega⟩
  by_cases h0 : 0 < zs.length
  ·
   obtain ⟨b,off,rfl,hc⟩ := ints_at hcell h0
   refine .inr ⟨b,off,rfl,fun k hk => ?_⟩
   simp only [List.length_map,List.length_take] at hk
   have h1 := hc k (by omega)
   have hmem : zs[k]'(by omega) ∈ zs := List.getElem_mem _
   have hw := hwz _ hmem
   have hb : 0 ≤ zs[k]'(by omega) ∧ zs[k]'(by omega) ≤ 255 := by simpa [Lit.wf,IntKind.min,IntKind.max,IntKind.signed,IntKind.bits] using hw
   rw [h1]
   unfold bv
   simp only [List.getElem_map,List.getElem_take]
   rw [List.getD_eq_getElem?_getD,List.getElem?_eq_getElem (by omega)]
   simp only [Option.getD_some,UInt8.toNat_ofNat']
   congr 2
   omega
  ·
   refine .inl ?_
   have : zs = [] := List.length_eq_zero_iff.1 (by omega)
   simp [this]
end Go.Proofs.YtlmjeackfepllaaGreatDoor.By
namespace Go.Proofs.YtlmjeackfepllaaGreatDoor.As
open Go.ChangeShapes Go.WideShapes Go.ChangeAt Go.RowKit Mem
def datum (H : Type) (r : T) (d_data d_picks : DataW H) : DataW H := .agg [.lit (.int .i64 r.kind),.lit (.int .i64 r.n),.lit (.string (txt r.name)),.lit (.string (txt r.to)),d_data,d_picks]
def Sub (W : World) (r : T) : Prop := (∃ bs,By.Ls W r.data.ao r.data.n r.data.cap bs ∧ r.data.n ≤ 140737488351232) ∧ (∃ zs,Ints W r.picks.ao r.picks.n r.picks.cap zs)
theorem weights_all {H : Type} {P : Program} {e : TypeId} {d : DataW H} {n : Nat} (hn : n ∈ d.weights P e) : ∀ (l : List (DataW H)),d ∈ l → n ∈ DataW.weightsAll P e l
 | a :: l,h => by
  rw [DataW.weightsAll,List.mem_append]
  rcases List.mem_cons.1 h with rfl | h
  · exact .inl hn
  · exact .inr (weights_all hn l h)
def AtA (w : World) (a : Addr) (r : T) : Prop := ∀ p,p < 6 → w.cell? (a.add p) = (rv r)[p]?
end Go.Proofs.YtlmjeackfepllaaGreatDoor.As
namespace Go.Proofs.YtlmjeackfepllaaGreatDoor
open Go.RowKit
open Mem Dk
theorem As.C.keep {u v : World} {b : Nat} {r : As.T} (h : As.C u b r) (e : v.heap[b]? = u.heap[b]?) : As.C v b r := by
 obtain ⟨h0,h1,h2,h3,h4,h5⟩ := h
 unfold As.C
 exact ⟨(World.cell?_of_block e).trans h0,(World.cell?_of_block e).trans h1,(World.cell?_of_block e).trans h2,(World.cell?_of_block e).trans h3,(World.cell?_of_block e).trans h4,(World.cell?_of_block e).trans h5⟩
theorem As.C.lt {u : World} {b : Nat} {r : As.T} (h : As.C u b r) : b < u.heap.size := cell_lt h.1
namespace Dk
theorem del_len_le {s : ByteArray} {l : List F} : (del s l).length ≤ l.length := by
 unfold del
 rw [List.length_append,List.length_take,List.length_drop]
 omega
section
variable {d : D} {s t : ByteArray} {zs : List UInt8}
theorem app_len : (appD d s zs).2.fs.length ≤ d.fs.length + 1 := by
 unfold appD
 split
 · exact Nat.le_succ _
 split
 · exact Nat.le_succ _
 split
 · exact Nat.le_succ _
 split
 · exact Nat.le_succ _
 exact put_len _ _
theorem sync_len (h : Ok d) : (syncD d s).2.fs.length ≤ d.fs.length := by
 unfold syncD
 split
 · exact Nat.le_refl _
 split
 · exact Nat.le_refl _
 rename_i k
 split
 · exact Nat.le_refl _
 exact Nat.le_of_eq (put_len_has (by simpa using k))
theorem cut_len (h : Ok d) {n : Int} : (cutD d s n).2.fs.length ≤ d.fs.length := by
 unfold cutD
 split
 · exact Nat.le_refl _
 split
 · exact Nat.le_refl _
 rename_i k
 split
 · exact Nat.le_refl _
 split
 · exact Nat.le_refl _
 exact Nat.le_of_eq (put_len_has (by simpa using k))
theorem rem_len : (remD d s).2.fs.length ≤ d.fs.length := by
 unfold remD
 split
 · exact Nat.le_refl _
 split
 · exact Nat.le_refl _
 split
 · exact Nat.le_refl _
 exact del_len_le
theorem ren_len (h : Ok d) : (renD d s t).2.fs.length ≤ d.fs.length := by
 unfold renD
 split
 · exact Nat.le_refl _
 split
 · exact Nat.le_refl _
 split
 · exact Nat.le_refl _
 rename_i k
 split
 · exact Nat.le_refl _
 have h1 := del_len (s := s) h.sorted (by simpa using k)
 have h2 := put_len ⟨t,(own s d.fs).bs,(own s d.fs).kept⟩ (del s d.fs)
 show (put _ _).length ≤ _
 omega
def Free (d : D) : Prop := d.off = false ∧ d.left = -1
theorem dec_free : dec (-1) = -1 := rfl
theorem app_free (h : Free d) : Free (appD d s zs).2 := by
 obtain ⟨fs,off,left⟩ := d
 obtain ⟨h1,h2⟩ := h
 simp only at h1 h2
 subst h1 h2
 unfold appD
 rw [if_neg Bool.false_ne_true]
 split
 · exact ⟨rfl,rfl⟩
 split
 · exact ⟨rfl,rfl⟩
 rw [if_neg (by show ¬ (-1 : Int) = 0; decide)]
 exact ⟨rfl,rfl⟩
theorem sync_free (h : Free d) : Free (syncD d s).2 := by
 obtain ⟨fs,off,left⟩ := d
 obtain ⟨h1,h2⟩ := h
 simp only at h1 h2
 subst h1 h2
 unfold syncD
 rw [if_neg Bool.false_ne_true]
 split
 · exact ⟨rfl,rfl⟩
 rw [if_neg (by show ¬ (-1 : Int) = 0; decide)]
 exact ⟨rfl,rfl⟩
theorem rem_free (h : Free d) : Free (remD d s).2 := by
 obtain ⟨fs,off,left⟩ := d
 obtain ⟨h1,h2⟩ := h
 simp only at h1 h2
 subst h1 h2
 unfold remD
 rw [if_neg Bool.false_ne_true]
 split
 · exact ⟨rfl,rfl⟩
 rw [if_neg (by show ¬ (-1 : Int) = 0; decide)]
 exact ⟨rfl,rfl⟩
theorem ren_free (h : Free d) : Free (renD d s t).2 := by
 obtain ⟨fs,off,left⟩ := d
 obtain ⟨h1,h2⟩ := h
 simp only at h1 h2
 subst h1 h2
 unfold renD
 rw [if_neg Bool.false_ne_true]
 split
 · exact ⟨rfl,rfl⟩
 split
 · exact ⟨rfl,rfl⟩
 rw [if_neg (by show ¬ (-1 : Int) = 0; decide)]
 exact ⟨rfl,rfl⟩
theorem has_put {f : F} {l : List F} (hs : Sorted l) : has f.name (put f l) = true := has_mem.2 ⟨f,(mem_put hs f).2 (.inl rfl),rfl⟩
theorem app_has (h : Ok d) : has s (appD d s zs).2.fs = (has s d.fs || ((appD d s zs).1 == 0)) := by
 unfold appD
 split
 ·
  show has s d.fs = (has s d.fs || ((18 : Int) == 0))
  rw [show ((18 : Int) == 0) = false from rfl,Bool.or_false]
 split
 ·
  show has s d.fs = (has s d.fs || ((19 : Int) == 0))
  rw [show ((19 : Int) == 0) = false from rfl,Bool.or_false]
 split
 ·
  show has s d.fs = (has s d.fs || ((14 : Int) == 0))
  rw [show ((14 : Int) == 0) = false from rfl,Bool.or_false]
 split
 ·
  show has s d.fs = (has s d.fs || ((18 : Int) == 0))
  rw [show ((18 : Int) == 0) = false from rfl,Bool.or_false]
 show has s (put _ _) = (has s d.fs || ((0 : Int) == 0))
 rw [show ((0 : Int) == 0) = true from rfl,Bool.or_true]
 exact has_put (f := ⟨s,_,_⟩) h.sorted
theorem rem_has (h : Ok d) (hf : Free d) : has s (remD d s).2.fs = false ∧ ((remD d s).1 == 0) = has s d.fs := by
 obtain ⟨fs,off,left⟩ := d
 obtain ⟨h1,h2⟩ := hf
 have hq := h.sorted
 simp only at h1 h2 hq
 subst h1 h2
 unfold remD
 rw [if_neg Bool.false_ne_true]
 cases k : has s fs
 ·
  rw [if_pos (by rfl)]
  exact ⟨k,rfl⟩
 ·
  rw [if_neg (by intro z; cases z),if_neg (by show ¬ (-1 : Int) = 0; decide)]
  exact ⟨del_self hq k,rfl⟩
end
end Dk
section
variable {P : Nat → Prop} {w0 w u : World} {p : Nat} {d : D}
theorem Dk.S.ok (h : S P w0 w p d) : Ok d := by
 obtain ⟨v,L,rs,k⟩ := h.dsk
 exact k.ok
theorem s_is (h : S P w0 w p d) (s : ByteArray) (th : Bool) (ht : has s d.fs = th) : Calls Tryz.prog 64 #[.pointer (some ⟨p,0,none⟩),.string s] w fun e w' => ∃ (ao : Option Addr) (n cap : Nat),e = .returned (.tuple #[.slice ao n cap,.bool th]) ∧ Below w.heap.size w w' := by
 refine (s_read h s).mono ?_
 rintro e w' ⟨b,⟨h1,rfl⟩ | ⟨h1,g,rfl,_,_⟩⟩
 ·
  rw [h1] at ht
  exact ⟨_,_,_,by rw [ht],b⟩
 ·
  rw [h1] at ht
  exact ⟨_,_,_,by rw [ht],b⟩
theorem s_nth (h : S P w0 w p d) {k : Nat} (hk : k < d.fs.length) : Calls Tryz.prog 64 #[.pointer (some ⟨p,0,none⟩),.string d.fs[k].name] w fun e w' => ∃ g : Nat,e = .returned (.tuple #[.slice (some ⟨g,0,none⟩) d.fs[k].bs.length d.fs[k].bs.length,.bool true]) ∧ By.Block w' g d.fs[k].bs ∧ Below w.heap.size w w' := by
 obtain ⟨h1,h2⟩ := own_eq h.ok.sorted (List.getElem_mem hk) rfl
 refine (s_read h d.fs[k].name).mono ?_
 rintro e w' ⟨b,⟨h3,rfl⟩ | ⟨_,g,rfl,hb,_⟩⟩
 ·
  rw [h1] at h3
  cases h3
 ·
  rw [h2] at hb ⊢
  exact ⟨g,rfl,hb,b⟩
end
theorem Dk.old_at {w : World} {ao : Option Addr} {n cap : Nat} {xs : List UInt8} (h : By.Ls w ao n cap xs) (hx : xs ≠ []) (ad : Addr) (e : ao = some ad) : ad.block < w.heap.size := by
 rcases h.seg with k | ⟨b,off,k,hc⟩
 · exact absurd k hx
 ·
  rw [k] at e
  cases e
  exact cell_lt (hc 0 (List.length_pos_iff.2 hx))
theorem s_app_old {P : Nat → Prop} {w0 w : World} {p : Nat} {d : D} (h : S P w0 w p d) (s : ByteArray) (hs : s.size ≤ 140737488355328) {ao : Option Addr} {n cap : Nat} {zs : List UInt8} (hL : By.Ls w0 ao n cap zs) (few : d.fs.length < 1000) :
  Calls Tryz.prog 30 #[.pointer (some ⟨p,0,none⟩),.string s,.slice ao n cap] w fun e w' => e = .returned (.int .i64 (appD d s zs).1) ∧ S (nw P w) w0 w' p (appD d s zs).2 ∧ UpdQ P w w' :=
 s_append h s (by omega) ao n cap zs (hL.below h.bel) (fun hne ad e z => by
  have h1 := old_at hL hne ad e
  have h2 := h.sub _ z
  omega) few
structure Dk.Asks (w : World) (ao : Option Addr) (n cap : Nat) (rs : List As.T) : Prop where
 ls : As.Ls w ao n cap rs
 sub : ∀ r ∈ rs,As.Sub w r
end Go.Proofs.YtlmjeackfepllaaGreatDoor
namespace Go.Proofs.YtlmjeackfepllaaGreatDoor
open Go.RowKit
open Mem Dk
theorem Ints.old {w u : World} {ao : Option Addr} {n cap : Nat} {zs : List Int} (h : Ints w ao n cap zs) (k : Below w.heap.size w u) : Ints u ao n cap zs := h.keep (UpdQ.of (Q := fun _ => False) k) fun _ _ _ z => z
theorem Ints.old_at {w : World} {ao : Option Addr} {n cap : Nat} {zs : List Int} (h : Ints w ao n cap zs) (hx : zs ≠ []) (ad : Addr) (e : ao = some ad) : ad.block < w.heap.size := by
 rcases h.seg with k | ⟨b,off,k,hc⟩
 · exact absurd k hx
 ·
  rw [k] at e
  cases e
  exact cell_lt (hc 0 (List.length_pos_iff.2 hx))
theorem s_crash_old {P : Nat → Prop} {w0 w : World} {p : Nat} {d : D} (h : S P w0 w p d) {ao : Option Addr} {n cap : Nat} {zs : List Int} (hI : Ints w0 ao n cap zs) :
  Calls Tryz.prog 24 #[.pointer (some ⟨p,0,none⟩),.slice ao n cap] w fun e w' => e = .returned (.tuple #[]) ∧ S P w0 w' p (crashD d zs) ∧ UpdQ P w w' :=
 s_crash h ao n cap zs (hI.old h.bel) fun hne ad e z => by
  have h1 := hI.old_at hne ad e
  have h2 := h.sub _ z
  omega
namespace Dk
def no : ByteArray := ⟨#[111,119,110]⟩
theorem no_ok : nameOk no = true := by decide
theorem no_list : no.toList = [111,119,110] := by kernel_rfl
theorem is_no {s : ByteArray} (h : (s.toList == [111,119,110]) = false) : s ≠ no := by
 rintro rfl
 rw [no_list] at h
 cases h
section
variable {d : D} {s t : ByteArray} {zs : List UInt8} {i : Nat}
theorem app_total (h : Ok d) : total (appD d s zs).2.fs ≤ total d.fs + zs.length := by
 unfold appD
 split
 · exact Nat.le_add_right _ _
 split
 · exact Nat.le_add_right _ _
 split
 · exact Nat.le_add_right _ _
 split
 · exact Nat.le_add_right _ _
 have h1 := total_put (f := ⟨s,(own s d.fs).bs ++ zs,(own s d.fs).kept⟩) h.sorted
 simp only [List.length_append] at h1
 show total (put _ _) ≤ _
 omega
theorem sync_total (h : Ok d) : total (syncD d s).2.fs ≤ total d.fs := by
 unfold syncD
 split
 · exact Nat.le_refl _
 split
 · exact Nat.le_refl _
 split
 · exact Nat.le_refl _
 have h1 := total_put (f := ⟨s,(own s d.fs).bs,(own s d.fs).bs.length⟩) h.sorted
 simp only at h1
 show total (put _ _) ≤ _
 omega
theorem rem_total : total (remD d s).2.fs ≤ total d.fs := by
 unfold remD
 split
 · exact Nat.le_refl _
 split
 · exact Nat.le_refl _
 split
 · exact Nat.le_refl _
 exact total_del_le _ _
theorem ren_total (h : Ok d) : total (renD d s t).2.fs ≤ total d.fs := by
 unfold renD
 split
 · exact Nat.le_refl _
 split
 · exact Nat.le_refl _
 split
 · exact Nat.le_refl _
 rename_i k
 split
 · exact Nat.le_refl _
 have hh : has s d.fs = true := by simpa using k
 have h1 := total_put (f := ⟨t,(own s d.fs).bs,(own s d.fs).kept⟩) (del_sorted (s := s) h.sorted)
 have h2 := total_del (spot_lt h.sorted hh)
 have h3 := own_at h.sorted hh
 rw [← h3] at h2
 simp only at h1
 show total (put _ _) ≤ _
 omega
structure Keep (d : D) (ks : List UInt8) (i : Nat) : Prop where
 free : Free d
 len : d.fs.length ≤ i + 1
 has : has no d.fs = true
 own : own no d.fs = ⟨no,ks,ks.length⟩
 tot : total d.fs ≤ 300 * (i + 1)
variable {ks : List UInt8}
theorem Keep.more (h : Keep d ks i) : Keep d ks (i + 1) := ⟨h.free,by have := h.len; omega,h.has,h.own,by have := h.tot; omega⟩
theorem Keep.app (h : Keep d ks i) (k : Ok d) (hs : s ≠ no) (hz : zs.length ≤ 300) : Keep (appD d s zs).2 ks (i + 1) := by
 have e := app_other k hs zs
 exact ⟨app_free h.free,by have := app_len (d := d) (s := s) (zs := zs); have := h.len; omega,e.1.trans h.has,e.2.trans h.own,by have := app_total (s := s) (zs := zs) k; have := h.tot; omega⟩
theorem Keep.sync (h : Keep d ks i) (k : Ok d) (hs : s ≠ no) : Keep (syncD d s).2 ks (i + 1) := by
 have e := sync_other k hs
 exact ⟨sync_free h.free,by have := sync_len (s := s) k; have := h.len; omega,e.1.trans h.has,e.2.trans h.own,by have := sync_total (s := s) k; have := h.tot; omega⟩
theorem Keep.rem (h : Keep d ks i) (k : Ok d) (hs : s ≠ no) : Keep (remD d s).2 ks (i + 1) := by
 have e := rem_other k hs
 exact ⟨rem_free h.free,by have := rem_len (d := d) (s := s); have := h.len; omega,e.1.trans h.has,e.2.trans h.own,by have := rem_total (d := d) (s := s); have := h.tot; omega⟩
theorem Keep.ren (h : Keep d ks i) (k : Ok d) (hs : s ≠ no) (ht : t ≠ no) : Keep (renD d s t).2 ks (i + 1) := by
 have e := ren_other k hs ht
 exact ⟨ren_free h.free,by have := ren_len (s := s) (t := t) k; have := h.len; omega,e.1.trans h.has,e.2.trans h.own,by have := ren_total (s := s) (t := t) k; have := h.tot; omega⟩
theorem keep_first (hk : ks.length ≤ 300) : Keep (syncD (appD Dk.new no ks).2 no).2 ks 0 ∧ (appD Dk.new no ks).1 = 0 ∧ (syncD (appD Dk.new no ks).2 no).1 = 0 := by
 have e1 := run_a1 no no_ok ks (by omega) (-1) (by decide)
 have e2 := run_s no ks 0 (-1) (by decide)
 rw [show Dk.new = ⟨[],false,-1⟩ from rfl,e1]
 simp only [dec_free]
 rw [e2]
 refine ⟨⟨⟨rfl,rfl⟩,Nat.le_refl _,one_has _ _ _,one_own _ _ _,?_⟩,trivial,rfl⟩
 show ks.length + 0 ≤ 300 * (0 + 1)
 omega
theorem keep_last (h : Keep d ks i) (k : Ok d) (hi : i ≤ 30) (hz : zs.length ≤ 300) : (appD d no zs).1 = 0 ∧ has no (appD d no zs).2.fs = true ∧ own no (appD d no zs).2.fs = ⟨no,ks ++ zs,ks.length⟩ := by
 have h1 := h.tot
 obtain ⟨f1,f2⟩ := h.free
 have e : appD d no zs = (0,with' d (put ⟨no,(own no d.fs).bs ++ zs,(own no d.fs).kept⟩ d.fs)) := by
  unfold appD
  rw [if_neg (by rw [f1]; exact Bool.false_ne_true),if_neg (by rw [no_ok]; exact fun z => by cases z),if_neg (by omega),if_neg (by rw [f2]; decide)]
 rw [e,h.own]
 have h2 := own_eq (put_sorted (f := ⟨no,ks ++ zs,ks.length⟩) k.sorted) ((mem_put k.sorted _).2 (.inl rfl)) rfl
 exact ⟨rfl,h2.1,h2.2⟩
theorem crash_own (k : Ok d) {l : List Int} (k' : Ok (crashD d l)) (hh : has s d.fs = true) : ∃ q,has s (crashD d l).fs = true ∧ own s (crashD d l).fs = tear (own s d.fs) q := by
 have h1 := spot_lt k.sorted hh
 have h2 := own_at k.sorted hh
 have h3 : (crashD d l).fs[spot s d.fs]? = some (tear d.fs[spot s d.fs] (pick l (spot s d.fs))) := by
  unfold crashD
  simp only [List.getElem?_mapIdx]
  rw [List.getElem?_eq_getElem h1]
  rfl
 refine ⟨pick l (spot s d.fs),?_⟩
 rw [h2]
 exact own_eq k'.sorted (List.mem_of_getElem? h3) ((tear_name _ _).trans (spot_name k.sorted hh))
theorem tear_told (f : F) (q : Nat) (h : f.kept ≤ f.bs.length) : ∃ k,k ≤ f.bs.length - f.kept ∧ (tear f q).bs.length = f.kept + k ∧ (tear f q).bs.take f.kept = f.bs.take f.kept ∧ ∀ i,i < k → (tear f q).bs[f.kept + i]? = f.bs[f.kept + i]? ∨ (i + 1 = k ∧ ∃ y,f.bs[f.kept + i]? = some y ∧ (tear f q).bs[f.kept + i]? = some (y ^^^ 255)) := by
 have hl := tear_len f h q
 generalize hk : q % (f.bs.length - f.kept + 1) = k at hl
 by_cases hn : 0 < q % (f.bs.length - f.kept + 1) ∧ q / (f.bs.length - f.kept + 1) % 2 = 1
 ·
  rw [tear_yes h hn]
  simp only [hk]
  have hlen : (f.bs.take (f.kept + k)).length = f.kept + k := by rw [List.length_take]; omega
  have hk0 : 0 < k := hk ▸ hn.1
  refine ⟨k,by omega,?_,?_,fun i hi => ?_⟩
  ·
   unfold flip
   rw [List.length_set,hlen]
  ·
   unfold flip
   rw [hlen,List.take_set_of_le (by omega),List.take_take,Nat.min_eq_left (by omega)]
  ·
   unfold flip
   rw [hlen]
   by_cases e : i + 1 = k
   ·
    refine .inr ⟨e,f.bs[f.kept + i]'(by omega),List.getElem?_eq_getElem _,?_⟩
    have e2 : f.kept + k - 1 = f.kept + i := by omega
    rw [e2,List.getElem?_set_self (by rw [hlen]; omega)]
    have e3 : (f.bs.take (f.kept + k)).getLast? = some (f.bs[f.kept + i]'(by omega)) := by
     rw [List.getLast?_eq_getElem?,hlen,e2,List.getElem?_take_of_lt (by omega),List.getElem?_eq_getElem (by omega)]
    rw [e3]
    rfl
   ·
    refine .inl ?_
    rw [List.getElem?_set_ne (by omega),List.getElem?_take_of_lt (by omega)]
 ·
  rw [tear_no h hn]
  simp only [hk]
  refine ⟨k,by omega,by rw [List.length_take]; omega,by rw [List.take_take,Nat.min_eq_left (by omega)],fun i hi => .inl ?_⟩
  rw [List.getElem?_take_of_lt (by omega)]
theorem tear_again (b : List UInt8) (q : Nat) : tear ⟨s,b,b.length⟩ q = ⟨s,b,b.length⟩ := by
 have e : b.length - b.length + 1 = 1 := by omega
 have hn : ¬ (0 < q % (b.length - b.length + 1) ∧ q / (b.length - b.length + 1) % 2 = 1) := by
  rw [e,Nat.mod_one]
  exact fun z => absurd z.1 (Nat.lt_irrefl _)
 rw [tear_no (f := ⟨s,b,b.length⟩) (Nat.le_refl _) hn]
 simp only [e,Nat.mod_one,Nat.add_zero,List.take_length]
end
end Dk
end Go.Proofs.YtlmjeackfepllaaGreatDoor
namespace Go.Proofs.YtlmjeackfepllaaGreatDoor.Wl
open Pk Dk
theorem wname_dig : ∀ k : Fin 100,numOf (pre4 ++ (if k.val < 10 then [UInt8.ofNat (48 + k.val)] else [UInt8.ofNat (48 + k.val / 10),UInt8.ofNat (48 + k.val % 10)])) = some k.val ∧ ((pre4 ++ (if k.val < 10 then [UInt8.ofNat (48 + k.val)] else [UInt8.ofNat (48 + k.val / 10),UInt8.ofNat (48 + k.val % 10)])).all fun c => decide (33 ≤ c.toNat ∧ c.toNat ≤ 126)) = true := by decide +kernel
theorem dec_form {k : Nat} (h : k < 100) : Lib.decDigits k = if k < 10 then [UInt8.ofNat (48 + k)] else [UInt8.ofNat (48 + k / 10),UInt8.ofNat (48 + k % 10)] := by
 by_cases h1 : k < 10
 · rw [Lib.decDigits_one h1,if_pos h1]
 · rw [Lib.decDigits_two h1 h,if_neg h1]
theorem num_wname {k : Nat} (h : k < 100) : numOf (txt (wname k)) = some k := by
 show numOf (pre4 ++ Lib.decDigits k) = some k
 rw [dec_form h]
 exact (wname_dig ⟨k,h⟩).1
theorem wname_inj {j k : Nat} (hj : j < 100) (hk : k < 100) (e : wname j = wname k) : j = k := by
 have h1 := num_wname hj
 rw [e,num_wname hk] at h1
 exact (Option.some.inj h1).symm
theorem wname_ok {k : Nat} (h : k < 100) : nameOk (wname k) = true := by
 unfold nameOk
 have h2 : (txt (wname k)).all (fun c => decide (33 ≤ c.toNat ∧ c.toNat ≤ 126)) = true := by
  show (pre4 ++ Lib.decDigits k).all _ = true
  rw [dec_form h]
  exact (wname_dig ⟨k,h⟩).2
 rw [h2,Bool.and_true,decide_eq_true_eq]
 have h3 := wname_size h
 have h4 : (wname k).size = (pre4 ++ Lib.decDigits k).length := size_mk _
 rw [List.length_append] at h4
 have : pre4.length = 4 := rfl
 omega
def numsL (ns : List ByteArray) : List Nat := ns.filterMap fun s => numOf (txt s)
def numsS (ns : List ByteArray) : List Nat := (numsL ns).mergeSort fun a b => decide (a ≤ b)
def Nm (fs : List F) : Prop := ∀ f ∈ fs,∃ k,k < 100 ∧ f.name = wname k
theorem mem_numsL {fs : List F} (h : Nm fs) {k : Nat} : k ∈ numsL (names fs) ↔ k < 100 ∧ has (wname k) fs = true := by
 unfold numsL names
 rw [List.mem_filterMap]
 constructor
 ·
  rintro ⟨s,hs,e⟩
  obtain ⟨f,hf,rfl⟩ := List.mem_map.1 hs
  obtain ⟨j,hj,ej⟩ := h f hf
  rw [ej,num_wname hj] at e
  cases e
  exact ⟨hj,has_mem.2 ⟨f,hf,ej⟩⟩
 ·
  rintro ⟨hk,hh⟩
  obtain ⟨f,hf,e⟩ := has_mem.1 hh
  exact ⟨f.name,List.mem_map.2 ⟨f,hf,rfl⟩,by rw [e,num_wname hk]⟩
theorem mem_nums {fs : List F} (h : Nm fs) {k : Nat} : k ∈ numsS (names fs) ↔ k < 100 ∧ has (wname k) fs = true := by
 unfold numsS
 rw [List.mem_mergeSort]
 exact mem_numsL h
theorem nodup_numsL : ∀ fs : List F,Sorted fs → Nm fs → (numsL (names fs)).Nodup
 | [],_,_ => List.Pairwise.nil
 | f :: l,hs,h => by
  obtain ⟨k,hk,e⟩ := h f (List.mem_cons_self ..)
  have hl := List.pairwise_cons.1 hs
  have hn : Nm l := fun g hg => h g (List.mem_cons_of_mem _ hg)
  have e2 : numsL (names (f :: l)) = k :: numsL (names l) := by
   show List.filterMap _ (f.name :: names l) = _
   rw [List.filterMap_cons_some (by rw [e]; exact num_wname hk)]
   rfl
  rw [e2,List.nodup_cons]
  refine ⟨fun z => ?_,nodup_numsL l hl.2 hn⟩
  obtain ⟨_,hh⟩ := (mem_numsL hn).1 z
  obtain ⟨g,hg,eg⟩ := has_mem.1 hh
  exact lt_ne (hl.1 g hg) (e.trans eg.symm)
theorem nodup_nums {fs : List F} (hs : Sorted fs) (h : Nm fs) : (numsS (names fs)).Nodup := (List.mergeSort_perm _ _).nodup_iff.2 (nodup_numsL fs hs h)
theorem nums_rise (ns : List ByteArray) : (numsS ns).Pairwise fun a b => a ≤ b := by
 have := List.pairwise_mergeSort (le := fun a b : Nat => decide (a ≤ b)) (fun a b c h1 h2 => decide_eq_true (Nat.le_trans (of_decide_eq_true h1) (of_decide_eq_true h2))) (fun a b => by
  rcases Nat.le_total a b with h | h
  · rw [decide_eq_true h]; rfl
  · rw [decide_eq_true h,Bool.or_true]) (numsL ns)
 exact this.imp fun h => of_decide_eq_true h
def flOf (fs : List F) (n : Nat) : List UInt8 := (Dk.own (wname n) fs).bs
def findL (fs : List F) : List Nat → Nat × Sg × Bool × Nat
 | [] => (0,empty,false,0)
 | n :: l => if (read (flOf fs n)).1.ready = true then (n,(read (flOf fs n)).1,decide ((read (flOf fs n)).2 < (flOf fs n).length),(read (flOf fs n)).2) else findL fs l
theorem findL_spec {fs : List F} {n : Nat} (hr : (read (flOf fs n)).1.ready = true) : ∀ l : List Nat,(∀ m ∈ l,n < m → (read (flOf fs m)).1.ready = false) → l.Pairwise (fun a b => b ≤ a) → n ∈ l →
  findL fs l = (n,(read (flOf fs n)).1,decide ((read (flOf fs n)).2 < (flOf fs n).length),(read (flOf fs n)).2)
 | [],_,_,h => by cases h
 | m :: l,ht,hp,h => by
  rw [findL]
  by_cases e : m = n
  ·
   subst e
   rw [if_pos hr]
  ·
   have hl := List.pairwise_cons.1 hp
   have hn : n ∈ l := (List.mem_cons.1 h).resolve_left fun z => e z.symm
   have := hl.1 n hn
   rw [if_neg (by rw [ht m (List.mem_cons_self ..) (by omega)]; simp)]
   exact findL_spec hr l (fun x hx => ht x (List.mem_cons_of_mem _ hx)) hl.2 hn
structure Tells (fs : List F) (n : Nat) (s : Sg) : Prop where
 lt : n < 100
 has : Dk.has (wname n) fs = true
 rd : (read (flOf fs n)).1 = s
 rdy : s.ready = true
 top : ∀ m,n < m → m < 100 → Dk.has (wname m) fs = true → (read (flOf fs m)).1.ready = false
structure Neat (fs : List F) : Prop where
 srt : Sorted fs
 nm : Nm fs
 full : ∀ f ∈ fs,f.kept = f.bs.length
theorem Tells.find {fs : List F} {n : Nat} {s : Sg} (h : Tells fs n s) (k : Neat fs) : findL fs (numsS (names fs)).reverse = (n,s,decide ((read (flOf fs n)).2 < (flOf fs n).length),(read (flOf fs n)).2) := by
 have := findL_spec (fs := fs) (n := n) (by rw [h.rd]; exact h.rdy) (numsS (names fs)).reverse (fun m hm hn => by
  have := (mem_nums k.nm).1 (List.mem_reverse.1 hm)
  exact h.top m hn this.1 this.2) (List.pairwise_reverse.2 (nums_rise _)) (List.mem_reverse.2 ((mem_nums k.nm).2 ⟨h.lt,h.has⟩))
 rw [h.rd] at this
 exact this
theorem Tells.sub {fs fs' : List F} {n : Nat} {s : Sg} (h : Tells fs n s) (hs : Sorted fs) (hs' : Sorted fs') (sub : ∀ f ∈ fs',f ∈ fs) (hh : Dk.has (wname n) fs' = true) : Tells fs' n s := by
 have e : ∀ m,Dk.has (wname m) fs' = true → Dk.has (wname m) fs = true ∧ flOf fs' m = flOf fs m := fun m hm => by
  have h1 := own_mem hs' hm
  have h2 := own_eq hs (sub _ h1) (own_name hs')
  exact ⟨h2.1,by unfold flOf; rw [h2.2]⟩
 refine ⟨h.lt,hh,by rw [(e n hh).2]; exact h.rd,h.rdy,fun m h1 h2 h3 => ?_⟩
 rw [(e m h3).2]
 exact h.top m h1 h2 (e m h3).1
theorem Tells.put {fs : List F} {n : Nat} {s : Sg} (h : Tells fs n s) (hs : Sorted fs) (bs : List UInt8) (k : Nat) (hb : (read bs).1 = s) : Tells (put ⟨wname n,bs,k⟩ fs) n s := by
 obtain ⟨_,h1,h2⟩ := put_spot (f := ⟨wname n,bs,k⟩) hs
 refine ⟨h.lt,h1,?_,h.rdy,fun m k1 k2 k3 => ?_⟩
 ·
  unfold flOf
  rw [show Dk.own (wname n) (Dk.put ⟨wname n,bs,k⟩ fs) = ⟨wname n,bs,k⟩ from h2]
  exact hb
 ·
  have hne : wname n ≠ wname m := fun z => by have := wname_inj h.lt k2 z; omega
  obtain ⟨a,b⟩ := put_other (s := wname m) (f := ⟨wname n,bs,k⟩) hs hne
  unfold flOf
  rw [b]
  exact h.top m k1 k2 (a ▸ k3)
theorem Neat.put {fs : List F} (h : Neat fs) {n : Nat} (hn : n < 100) (bs : List UInt8) : Neat (put ⟨wname n,bs,bs.length⟩ fs) :=
 ⟨put_sorted h.srt,fun g hg => (put_mem hg).elim (fun e => ⟨n,hn,by rw [e]⟩) (h.nm g),fun g hg => (put_mem hg).elim (fun e => by rw [e]) (h.full g)⟩
theorem Neat.sub {fs fs' : List F} (h : Neat fs) (hs : Sorted fs') (sub : ∀ f ∈ fs',f ∈ fs) : Neat fs' := ⟨hs,fun g hg => h.nm g (sub g hg),fun g hg => h.full g (sub g hg)⟩
theorem rem_cases (d : D) (t : ByteArray) : ((remD d t).1 ≠ 0 ∧ (remD d t).2.fs = d.fs) ∨ ((remD d t).1 = 0 ∧ Dk.has t d.fs = true ∧ (remD d t).2 = with' d (del t d.fs)) := by
 unfold remD
 split
 · exact .inl ⟨fun z => (by cases z),rfl⟩
 split
 · exact .inl ⟨fun z => (by cases z),rfl⟩
 split
 · exact .inl ⟨fun z => (by cases z),rfl⟩
 rename_i _ h _
 exact .inr ⟨rfl,by simpa using h,rfl⟩
theorem del_len_le (t : ByteArray) (l : List F) : (del t l).length ≤ l.length := by
 unfold del
 rw [List.length_append,List.length_take,List.length_drop]
 omega
theorem rem_power {d : D} {t : ByteArray} (h1 : d.off = false) (h2 : d.left = -1) (h3 : Dk.has t d.fs = true) : remD d t = (0,⟨del t d.fs,false,-1⟩) := by
 unfold remD
 rw [if_neg (by rw [h1]; simp),if_neg (by rw [h3]; simp),if_neg (by rw [h2]; decide)]
 unfold with'
 rw [h1,h2]
 rfl
theorem rmO_sub {n : Nat} (hn : n < 100) : ∀ (ks : List Nat) (d : D),(∀ k ∈ ks,k < 100) → Sorted d.fs → Sorted (rmO true n d ks).2.fs ∧ (∀ f ∈ (rmO true n d ks).2.fs,f ∈ d.fs) ∧ (Dk.has (wname n) d.fs = true → Dk.has (wname n) (rmO true n d ks).2.fs = true) ∧ (rmO true n d ks).2.fs.length ≤ d.fs.length ∧
  ((rmO true n d ks).1 = 0 → ∀ k ∈ ks,k ≠ n → Dk.has (wname k) (rmO true n d ks).2.fs = false)
 | [],d,_,hs => ⟨hs,fun f h => h,fun h => h,Nat.le_refl _,fun _ k hk => (by cases hk)⟩
 | m :: l,d,hk,hs => by
  have hl : ∀ k ∈ l,k < 100 := fun k z => hk k (List.mem_cons_of_mem _ z)
  have hm := hk m (List.mem_cons_self ..)
  rw [rmO]
  by_cases e : (true && (m == n)) = true
  ·
   rw [if_pos e]
   have e2 : m = n := by simpa using e
   obtain ⟨a,b,c,c2,f⟩ := rmO_sub hn l d hl hs
   refine ⟨a,b,c,c2,fun z k hk2 hne => ?_⟩
   rcases List.mem_cons.1 hk2 with rfl | hk2
   · exact absurd e2 hne
   · exact f z k hk2 hne
  ·
   rw [if_neg e]
   have e2 : m ≠ n := by simpa using e
   rcases rem_cases d (wname m) with ⟨r1,r2⟩ | ⟨r1,r2,r3⟩
   ·
    rw [if_pos r1,r2]
    exact ⟨hs,fun f h => h,fun h => h,Nat.le_refl _,fun z => absurd z r1⟩
   ·
    rw [if_neg (fun z => z r1),r3]
    have hs2 : Sorted (with' d (del (wname m) d.fs)).fs := del_sorted hs
    obtain ⟨a,b,c,c2,f⟩ := rmO_sub hn l (with' d (del (wname m) d.fs)) hl hs2
    have hne : wname m ≠ wname n := fun z => e2 (wname_inj hm hn z)
    refine ⟨a,fun g hg => del_mem (b g hg),fun z => c (by rw [← (del_other hs r2 hne).1] at z; exact z),Nat.le_trans c2 (del_len_le _ _),fun z k hk2 hk3 => ?_⟩
    rcases List.mem_cons.1 hk2 with rfl | hk2
    ·
     rw [Bool.eq_false_iff]
     intro y
     obtain ⟨g,hg,eg⟩ := has_mem.1 y
     have h8 := del_self hs r2
     have h9 := has_mem.2 ⟨g,(b g hg : g ∈ del _ d.fs),eg⟩
     exact absurd (h9.symm.trans h8) (by simp)
    · exact f z k hk2 hk3
theorem rmO_power {n : Nat} : ∀ (ks : List Nat) (d : D),(∀ k ∈ ks,k < 100) → Sorted d.fs → ks.Nodup → (∀ k ∈ ks,k ≠ n → Dk.has (wname k) d.fs = true) → d.off = false → d.left = -1 → (rmO true n d ks).1 = 0 ∧ (rmO true n d ks).2.off = false ∧ (rmO true n d ks).2.left = -1
 | [],d,_,_,_,_,h1,h2 => ⟨rfl,h1,h2⟩
 | m :: l,d,hk,hs,hd,hh,h1,h2 => by
  have hl : ∀ k ∈ l,k < 100 := fun k z => hk k (List.mem_cons_of_mem _ z)
  have hm := hk m (List.mem_cons_self ..)
  obtain ⟨d1,d2⟩ := List.nodup_cons.1 hd
  rw [rmO]
  by_cases e : (true && (m == n)) = true
  ·
   rw [if_pos e]
   exact rmO_power l d hl hs d2 (fun k z => hh k (List.mem_cons_of_mem _ z)) h1 h2
  ·
   have e2 : m ≠ n := by simpa using e
   have hm2 := hh m (List.mem_cons_self ..) e2
   rw [if_neg e,rem_power h1 h2 hm2,if_neg (fun z => z rfl)]
   refine rmO_power l ⟨del (wname m) d.fs,false,-1⟩ hl (del_sorted hs) d2 (fun k z z2 => ?_) rfl rfl
   have hne : wname m ≠ wname k := fun y => d1 (wname_inj hm (hl k z) y ▸ z)
   show Dk.has (wname k) (del (wname m) d.fs) = true
   rw [(del_other hs hm2 hne).1]
   exact hh k (List.mem_cons_of_mem _ z) z2
def openS (d : D) : Int × Nat × Sg × D :=
 let x := findL d.fs (numsS (names d.fs)).reverse
 let c := if x.2.2.1 = true then cutD d (wname x.1) (x.2.2.2 : Int) else (0,d)
 if c.1 ≠ 0 then (c.1,x.1,x.2.1,c.2) else
 let r := rmO x.2.1.ready x.1 c.2 (numsS (names d.fs))
 if r.1 ≠ 0 then (r.1,x.1,x.2.1,r.2) else
 if x.2.1.ready = true then ((syncD r.2 (wname x.1)).1,x.1,x.2.1,(syncD r.2 (wname x.1)).2) else (0,x.1,x.2.1,r.2)
def One (fs : List F) (n : Nat) (s : Sg) : Prop := ∃ bs,fs = [⟨wname n,bs,bs.length⟩] ∧ read bs = (s,bs.length)
theorem only {l : List F} (hs : Sorted l) {f : F} (hf : f ∈ l) (h : ∀ g ∈ l,g.name = f.name) : l = [f] := by
 match l,hs,hf,h with
 | [],_,hf,_ => cases hf
 | [x],_,hf,_ => rw [List.mem_singleton.1 hf]
 | x :: y :: t,hs,hf,h =>
  have h1 := (List.pairwise_cons.1 hs).1 y (List.mem_cons_self ..)
  exact absurd ((h x (List.mem_cons_self ..)).trans (h y (List.mem_cons_of_mem _ (List.mem_cons_self ..))).symm) (lt_ne h1)
theorem sync_cases (d : D) (t : ByteArray) : ((syncD d t).1 ≠ 0 ∧ (syncD d t).2.fs = d.fs) ∨ ((syncD d t).1 = 0 ∧ Dk.has t d.fs = true ∧ (syncD d t).2 = with' d (put ⟨t,(Dk.own t d.fs).bs,(Dk.own t d.fs).bs.length⟩ d.fs)) := by
 unfold syncD
 split
 · exact .inl ⟨fun z => (by cases z),rfl⟩
 split
 · exact .inl ⟨fun z => (by cases z),rfl⟩
 split
 · exact .inl ⟨fun z => (by cases z),rfl⟩
 rename_i _ h _
 exact .inr ⟨rfl,by simpa using h,rfl⟩
theorem sync_power {d : D} {t : ByteArray} (h1 : d.off = false) (h2 : d.left = -1) (h3 : Dk.has t d.fs = true) : (syncD d t).1 = 0 ∧ (syncD d t).2.off = false ∧ (syncD d t).2.left = -1 := by
 unfold syncD
 rw [if_neg (by rw [h1]; simp),if_neg (by rw [h3]; simp),if_neg (by rw [h2]; decide)]
 exact ⟨rfl,h1,by show dec d.left = -1; rw [h2]; rfl⟩
theorem cut_cases (d : D) (t : ByteArray) (n : Int) : ((cutD d t n).1 ≠ 0 ∧ (cutD d t n).2.fs = d.fs) ∨ ((cutD d t n).1 = 0 ∧ Dk.has t d.fs = true ∧ (cutD d t n).2 = with' d (put ⟨t,(Dk.own t d.fs).bs.take n.toNat,min (Dk.own t d.fs).kept n.toNat⟩ d.fs)) := by
 unfold cutD
 split
 · exact .inl ⟨fun z => (by cases z),rfl⟩
 split
 · exact .inl ⟨fun z => (by cases z),rfl⟩
 split
 · exact .inl ⟨fun z => (by cases z),rfl⟩
 split
 · exact .inl ⟨fun z => (by cases z),rfl⟩
 rename_i _ h _ _
 exact .inr ⟨rfl,by simpa using h,rfl⟩
theorem cut_power {d : D} {t : ByteArray} {n : Nat} (h1 : d.off = false) (h2 : d.left = -1) (h3 : Dk.has t d.fs = true) (h4 : n ≤ (Dk.own t d.fs).bs.length) : (cutD d t n).1 = 0 ∧ (cutD d t n).2.off = false ∧ (cutD d t n).2.left = -1 := by
 unfold cutD
 rw [if_neg (by rw [h1]; simp),if_neg (by rw [h3]; simp),if_neg (by omega),if_neg (by rw [h2]; decide)]
 exact ⟨rfl,h1,by show dec d.left = -1; rw [h2]; rfl⟩
theorem read_cut (bs : List UInt8) : (read bs).2 ≤ bs.length ∧ read (bs.take (read bs).2) = read bs := by
 obtain ⟨ps,h1,h2,h3,h4,h5⟩ := rd_split _ bs empty (Nat.le_refl _)
 rw [← read_rd] at h2 h3 h4 h5
 have hl := congrArg List.length h4
 rw [List.length_append,List.length_drop] at hl
 refine ⟨by omega,?_⟩
 obtain ⟨Y,hY⟩ : ∃ Y,bs.drop (read bs).2 = Y := ⟨_,rfl⟩
 rw [hY] at h4
 have e : bs.take (read bs).2 = frames ps := by
  have := List.take_left' (l₁ := frames ps) (l₂ := Y) rfl
  rw [← h4,h3] at this
  exact this
 rw [e,read_rd,rd_all h1 h2,h3]
theorem open_tells {d : D} {n : Nat} {s : Sg} (hT : Tells d.fs n s) (hN : Neat d.fs) :
  ∃ e d',openS d = (e,n,s,d') ∧ Neat d'.fs ∧ Tells d'.fs n s ∧ d'.fs.length ≤ d.fs.length ∧ (e = 0 → One d'.fs n s ∧ (flOf d'.fs n).length ≤ (flOf d.fs n).length) ∧ (∀ m,(flOf d'.fs m).length ≤ (flOf d.fs m).length) ∧ (d.off = false → d.left = -1 → e = 0 ∧ d'.off = false ∧ d'.left = -1) := by
 have hks : ∀ k ∈ numsS (names d.fs),k < 100 := fun k hk => ((mem_nums hN.nm).1 hk).1
 obtain ⟨c1,c2⟩ := read_cut (flOf d.fs n)
 obtain ⟨c,hc⟩ : ∃ c,(if decide ((read (flOf d.fs n)).2 < (flOf d.fs n).length) = true then cutD d (wname n) ((read (flOf d.fs n)).2 : Int) else (0,d)) = c := ⟨_,rfl⟩
 have hcut : Neat c.2.fs ∧ Tells c.2.fs n s ∧ c.2.fs.length ≤ d.fs.length ∧ (∀ m,(flOf c.2.fs m).length ≤ (flOf d.fs m).length) ∧ (c.1 = 0 → read (flOf c.2.fs n) = (s,(flOf c.2.fs n).length)) ∧ (∀ k,Dk.has (wname k) c.2.fs = Dk.has (wname k) d.fs ∨ 100 ≤ k) ∧ (d.off = false → d.left = -1 → c.1 = 0 ∧ c.2.off = false ∧ c.2.left = -1) := by
  rw [← hc]
  by_cases hlt : (read (flOf d.fs n)).2 < (flOf d.fs n).length
  ·
   rw [if_pos (decide_eq_true hlt)]
   rcases cut_cases d (wname n) ((read (flOf d.fs n)).2 : Int) with ⟨r1,r2⟩ | ⟨r1,r2,r3⟩
   ·
    rw [r2]
    exact ⟨hN,hT,Nat.le_refl _,fun m => Nat.le_refl _,fun z => absurd z r1,fun k => .inl rfl,fun z1 z2 => cut_power z1 z2 hT.has c1⟩
   ·
    have hk := hN.full _ (own_mem hN.srt hT.has)
    have ebs : (⟨wname n,(Dk.own (wname n) d.fs).bs.take ((read (flOf d.fs n)).2 : Int).toNat,min (Dk.own (wname n) d.fs).kept ((read (flOf d.fs n)).2 : Int).toNat⟩ : F) = ⟨wname n,(flOf d.fs n).take (read (flOf d.fs n)).2,((flOf d.fs n).take (read (flOf d.fs n)).2).length⟩ := by
     rw [hk,Int.toNat_natCast,List.length_take,Nat.min_comm]
     rfl
    have e3 : (cutD d (wname n) ((read (flOf d.fs n)).2 : Int)).2.fs = put ⟨wname n,(flOf d.fs n).take (read (flOf d.fs n)).2,((flOf d.fs n).take (read (flOf d.fs n)).2).length⟩ d.fs := by
     rw [r3,ebs]
     rfl
    obtain ⟨_,p1,p2⟩ := put_spot (f := ⟨wname n,(flOf d.fs n).take (read (flOf d.fs n)).2,((flOf d.fs n).take (read (flOf d.fs n)).2).length⟩) hN.srt
    have e4 : flOf (cutD d (wname n) ((read (flOf d.fs n)).2 : Int)).2.fs n = (flOf d.fs n).take (read (flOf d.fs n)).2 := by
     unfold flOf at e3 ⊢
     rw [e3]
     exact congrArg F.bs p2
    have e5 : ((flOf d.fs n).take (read (flOf d.fs n)).2).length = (read (flOf d.fs n)).2 := by rw [List.length_take]; omega
    refine ⟨by rw [e3]; exact hN.put hT.lt _,by rw [e3]; exact hT.put hN.srt _ _ (by rw [c2]; exact hT.rd),?_,fun m => ?_,fun _ => ?_,fun k => ?_,fun z1 z2 => cut_power z1 z2 hT.has c1⟩
    ·
     rw [e3,put_len_has (f := ⟨wname n,_,_⟩) hT.has]
     exact Nat.le_refl _
    ·
     by_cases em : wname n = wname m
     ·
      have e6 : flOf (cutD d (wname n) ((read (flOf d.fs n)).2 : Int)).2.fs m = flOf (cutD d (wname n) ((read (flOf d.fs n)).2 : Int)).2.fs n := by unfold flOf; rw [em]
      have e7 : flOf d.fs m = flOf d.fs n := by unfold flOf; rw [em]
      rw [e6,e4,e7,e5]
      exact c1
     ·
      have := (put_other (s := wname m) (f := ⟨wname n,(flOf d.fs n).take (read (flOf d.fs n)).2,((flOf d.fs n).take (read (flOf d.fs n)).2).length⟩) hN.srt em).2
      have e6 : flOf (cutD d (wname n) ((read (flOf d.fs n)).2 : Int)).2.fs m = flOf d.fs m := by
       rw [e3]
       exact congrArg F.bs this
      rw [e6]
      exact Nat.le_refl _
    ·
     rw [e4,c2,e5]
     exact Prod.ext hT.rd rfl
    ·
     by_cases hk100 : k < 100
     ·
      refine .inl ?_
      rw [e3]
      by_cases em : wname n = wname k
      ·
       rw [← em,hT.has]
       exact p1
      · exact (put_other (s := wname k) (f := ⟨wname n,_,_⟩) hN.srt em).1
     · exact .inr (by omega)
  ·
   rw [if_neg (by rw [decide_eq_true_eq]; exact hlt)]
   exact ⟨hN,hT,Nat.le_refl _,fun m => Nat.le_refl _,fun _ => Prod.ext hT.rd (by show (read (flOf d.fs n)).2 = (flOf d.fs n).length; omega),fun k => .inl rfl,fun z1 z2 => ⟨rfl,z1,z2⟩⟩
 obtain ⟨k1,k2,k3,k4,k5,k6,k7⟩ := hcut
 have hfind := hT.find hN
 by_cases ec : c.1 ≠ 0
 ·
  refine ⟨c.1,c.2,?_,k1,k2,k3,fun z => absurd z ec,k4,k7⟩
  unfold openS
  rw [hfind]
  dsimp only
  rw [hc,if_pos ec]
 have ec0 : c.1 = 0 := Decidable.not_not.1 ec
 obtain ⟨r,hr⟩ : ∃ r,rmO true n c.2 (numsS (names d.fs)) = r := ⟨_,rfl⟩
 obtain ⟨a1,a2,a3,a3l,a4⟩ := rmO_sub hT.lt (numsS (names d.fs)) c.2 hks k1.srt
 have a5 := rmO_power (n := n) (numsS (names d.fs)) c.2 hks k1.srt (nodup_nums hN.srt hN.nm) (fun k hk _ => by
  have := (mem_nums hN.nm).1 hk
  exact ((k6 k).resolve_right (by omega)).trans this.2)
 rw [hr] at a1 a2 a3 a3l a4 a5
 have n1 := k1.sub a1 a2
 have t1 := k2.sub k1.srt a1 a2 (a3 k2.has)
 have f1 : ∀ m,(flOf r.2.fs m).length ≤ (flOf c.2.fs m).length := fun m => by
  by_cases hm : Dk.has (wname m) r.2.fs = true
  ·
   have h1 := own_mem a1 hm
   have h2 := own_eq k1.srt (a2 _ h1) (own_name a1)
   unfold flOf
   rw [h2.2]
   exact Nat.le_refl _
  ·
   have : flOf r.2.fs m = [] := by
    unfold flOf
    rw [own_no (by simpa using hm)]
   rw [this]
   exact Nat.zero_le _
 by_cases er : r.1 ≠ 0
 ·
  refine ⟨r.1,r.2,?_,n1,t1,Nat.le_trans a3l k3,fun z => absurd z er,fun m => Nat.le_trans (f1 m) (k4 m),fun z1 z2 => ?_⟩
  ·
   unfold openS
   rw [hfind]
   dsimp only
   rw [hc,if_neg ec,hT.rdy,hr,if_pos er]
  ·
   obtain ⟨y1,y2,y3⟩ := k7 z1 z2
   exact absurd (a5 y2 y3).1 er
 have er0 : r.1 = 0 := Decidable.not_not.1 er
 have hone : One r.2.fs n s := by
  have hm := own_mem a1 t1.has
  have hall : ∀ g ∈ r.2.fs,g.name = (Dk.own (wname n) r.2.fs).name := fun g hg => by
   rw [own_name a1]
   obtain ⟨k,hk,ek⟩ := n1.nm g hg
   by_cases e : k = n
   · rw [ek,e]
   ·
    exfalso
    have h1 : Dk.has (wname k) c.2.fs = true := has_mem.2 ⟨g,a2 g hg,ek⟩
    have h2 : k ∈ numsS (names d.fs) := (mem_nums hN.nm).2 ⟨hk,((k6 k).resolve_right (by omega)).symm.trans h1⟩
    have h3 := a4 er0 k h2 e
    rw [has_mem.2 ⟨g,hg,ek⟩] at h3
    cases h3
  have h1 := only a1 hm hall
  have h2 := n1.full _ hm
  have h3 := own_name (s := wname n) a1
  have h5 : flOf r.2.fs n = flOf c.2.fs n := by
   have h2 := own_eq k1.srt (a2 _ hm) (own_name a1)
   unfold flOf
   rw [h2.2]
  have h4 := k5 ec0
  rw [← h5] at h4
  refine ⟨flOf r.2.fs n,?_,h4⟩
  have e8 : ∀ f : F,f.name = wname n → f.kept = f.bs.length → f = ⟨wname n,f.bs,f.bs.length⟩ := fun f a b => by
   obtain ⟨x,y,z⟩ := f
   dsimp only at a b
   rw [a,b]
  have e9 := e8 _ h3 h2
  exact h1.trans (congrArg (fun f => [f]) e9)
 obtain ⟨bs,ho,hrd⟩ := hone
 have hopen : openS d = ((syncD r.2 (wname n)).1,n,s,(syncD r.2 (wname n)).2) := by
  unfold openS
  rw [hfind]
  dsimp only
  rw [hc,if_neg ec,hT.rdy,hr,if_neg er,if_pos rfl]
 have hsy : (syncD r.2 (wname n)).2.fs = r.2.fs := by
  rcases sync_cases r.2 (wname n) with ⟨_,y⟩ | ⟨_,_,y⟩
  · exact y
  ·
   rw [y,ho]
   show Dk.put _ [_] = _
   rw [one_own,one_put]
 refine ⟨_,_,hopen,by rw [hsy]; exact n1,by rw [hsy]; exact t1,by rw [hsy]; exact Nat.le_trans a3l k3,fun _ => ⟨by rw [hsy]; exact ⟨bs,ho,hrd⟩,by rw [hsy]; exact Nat.le_trans (f1 n) (k4 n)⟩,fun m => by rw [hsy]; exact Nat.le_trans (f1 m) (k4 m),fun z1 z2 => ?_⟩
 obtain ⟨y1,y2,y3⟩ := k7 z1 z2
 obtain ⟨_,y5,y6⟩ := a5 y2 y3
 exact sync_power y5 y6 t1.has
end Go.Proofs.YtlmjeackfepllaaGreatDoor.Wl
namespace Go.Proofs.YtlmjeackfepllaaGreatDoor.Wl
open Go.RowKit
open Mem Dk
def numsI (xs : List ByteArray) : List Int := (numsL xs).map fun k : Nat => (k : Int)
theorem numsI_take {xs : List ByteArray} {k : Nat} (h : k < xs.length) : numsI (xs.take (k + 1)) = numsI (xs.take k) ++ ((numOf (txt xs[k])).map fun n : Nat => (n : Int)).toList := by
 unfold numsI numsL
 rw [List.take_succ_eq_append_getElem h,List.filterMap_append,List.map_append]
 congr 1
 cases hq : numOf (txt xs[k]) with
 | none =>
  rw [List.filterMap_cons_none (f := fun s => numOf (txt s)) hq]
  rfl
 | some j =>
  rw [List.filterMap_cons_some (f := fun s => numOf (txt s)) hq]
  rfl
theorem numsI_len (xs : List ByteArray) : (numsI xs).length ≤ xs.length := by
 unfold numsI numsL
 rw [List.length_map]
 exact List.length_filterMap_le _ _
theorem numsI_sort (xs : List ByteArray) : ((numsI xs).mergeSort fun a b => decide (a ≤ b)) = (numsS xs).map fun k : Nat => (k : Int) := by
 unfold numsI numsS
 rw [List.map_mergeSort (r := fun a b : Nat => decide (a ≤ b)) (s := fun a b : Int => decide (a ≤ b)) (f := fun k : Nat => (k : Int))]
 intro a _ b _
 simp
def NumsE (w : World) (xs : List ByteArray) (e : Ending) (w' : World) : Prop := ∃ v,e = .returned v ∧ Ni.Own w' w.heap.size v ((numsS xs).map fun k : Nat => (k : Int)) ∧ Below w.heap.size w w'
set_option maxHeartbeats 4000000 in
theorem wl_numbers (ao : Option Addr) (n cap : Nat) (xs : List ByteArray) (w : World) (hL : St.Ls w ao n cap xs) (hs : ∀ x ∈ xs,x.size ≤ 140737488355328) (hn : n ≤ 1000) :
  Calls Tryz.prog 39 #[.slice ao n cap] w (NumsE w xs) := by
 have HL := Lib.hid hL
 have HS := Lib.hid hs
 have HN := Lib.hid hL.len
 have h1 := hL.fits
 have h2 := hL.reach
 clear hL hs
 go_enter Tryz.func39,Tryz.ntmps39
 go_wp2
 go_loopw [3,5,6,7,10] (fun t _ _ _ i wr => ∃ k : Nat,k ≤ n ∧ i = .int .i64 k ∧ Hid (Ni.Own wr w.heap.size t (numsI (xs.take k))) ∧ Hid (Below w.heap.size w wr)) (fun _ _ _ _ i _ => n - (intOf i).toNat)
 case atStart => exact ⟨0,by omega,rfl,Lib.hid (Ni.own_nil _ _),Lib.hid (Below.refl _ _)⟩
 case round =>
  rename World => wz
  obtain ⟨k,hk,rfl,HT,HB⟩ := hrel
  by_cases hlt : k < n
  ·
   have hkl : k < xs.length := HN.out ▸ hlt
   obtain ⟨b,off,rfl⟩ := HL.out.at (by omega)
   have hrow := (HL.out.below HB.out).row k hkl
   have HK := Lib.hid (numsI_take hkl)
   have hxs := HS.out _ (List.getElem_mem hkl)
   obtain ⟨x,hx⟩ : ∃ x,xs[k] = x := ⟨_,rfl⟩
   rw [hx] at hrow HK hxs
   have CN := Lib.hid (wl_number x wz hxs)
   have hle : Hid ((numsI (xs.take k)).length ≤ 100000) := Lib.hid (by
    have := numsI_len (xs.take k)
    rw [List.length_take] at this
    omega)
   clear hx hxs
   cases hq : numOf (txt x)
   ·
    rw [hq] at CN HK
    unfold numE at CN
    have HT1 : Hid (Ni.Own wz w.heap.size _ (numsI (xs.take (k + 1)))) := Lib.hid (by rw [HK.out]; simp only [Option.map_none,Option.toList_none,List.append_nil]; exact HT.out)
    clear hq HT
    go_wp2_with (go_at_call 85; refine CN.out.mono ?_; rintro e u ⟨rfl,hu⟩; rw [hu]; clear hu u)
    go_roundw
    case rel => exact ⟨k + 1,by omega,by go_num,HT1,HB⟩
    case measure => simp [intOf]; omega
   ·
    rename_i j
    rw [hq] at CN HK
    unfold numE at CN
    clear hq
    go_wp2_with (first | (go_at_call 85; refine CN.out.mono ?_; rintro e u ⟨rfl,hu⟩; rw [hu]; clear hu u) | (at_builtin; go_must (refine Ni.app wz (j : Int) rfl (.tmp 20) (.tmp 22) rfl w.heap.size _ (numsI (xs.take k)) rfl HT.out rfl hle.out HB.out.size ?_)))
    intro v' w1 ho gr
    have HO1 : Hid (Ni.Own w1 w.heap.size v' (numsI (xs.take (k + 1)))) := Lib.hid (by rw [HK.out]; exact ho)
    have HB1 : Hid (Below w.heap.size w w1) := Lib.hid ((HB.out.alloc HB.out.size _).grown gr (by have := HB.out.size; simp; omega) (Ni.own_ge HT.out))
    clear ho gr HT
    go_wp2_with fail
    go_roundw
    case rel => exact ⟨k + 1,by omega,by go_num,HO1,HB1⟩
    case measure => simp [intOf]; omega
  ·
   obtain rfl : k = n := by omega
   have HM : Hid (numsI (xs.take k) = numsI xs) := Lib.hid (by rw [List.take_of_length_le (by have := HN.out; omega)])
   rw [HM.out] at HT
   have CS := Lib.hid (Ni.sort w HT.out (by have := numsI_len xs; have := HN.out; omega) HB.out)
   clear HT
   go_wp2_with (go_at_call 86; refine CS.out.mono ?_; rintro e u ⟨rfl,ho,hb⟩; have HO := Lib.hid ho; have HBu := Lib.hid hb; clear ho hb CS)
   go_ret
   exact ⟨_,rfl,by rw [← numsI_sort]; exact HO.out,HBu.out⟩
end Go.Proofs.YtlmjeackfepllaaGreatDoor.Wl
namespace Go.Proofs.YtlmjeackfepllaaGreatDoor.Bw
open Go.RowKit Go.Shelf
open Mem
attribute [local go_sem] Oper.semAt_some
def come (n m : Nat) : List (Fin n) := ((List.finRange n).reverse).take (n - m)
theorem come_succ {n m : Nat} (h : m < n) : come n m = come n (m + 1) ++ [⟨m,h⟩] := by
 unfold come
 have hl : n - (m + 1) < (List.finRange n).reverse.length := by rw [List.length_reverse,List.length_finRange]; omega
 rw [show n - m = (n - (m + 1)) + 1 by omega,List.take_succ_eq_append_getElem hl,List.getElem_reverse]
 congr 2
 rw [List.getElem_finRange]
 apply Fin.ext
 simp only [List.length_finRange,Fin.val_cast]
 omega
theorem come_len {n m : Nat} (h : m ≤ n) : (come n m).length = n - m := by
 unfold come
 rw [List.length_take,List.length_reverse,List.length_finRange]
 omega
def ev (zs : List Int) {n : Nat} (x : Fin n) : Array Value := #[.int .i64 (x.val : Int),.int .i64 (zs[x.val]?.getD 0)]
set_option maxHeartbeats 2000000 in
theorem closure (F : Fence) (n : Nat) (hf : F.fn 126) (hro : F.round = none) (hn : 1 ≤ n) (l Bs n₀ : Nat) (ao : Option Addr) (len cap : Nat) (zs : List Int) (hB : Bs < n₀) (hlen : len = zs.length) (hcl : len ≤ cap) (hcp : cap ≤ 9223372036854775807)
  (hs : zs = [] ∨ ∃ b off,ao = some ⟨b,off,none⟩ ∧ b < n₀) (J Jx : List (Fin len) → World → Prop)
  (hY : ∀ pre x W,J pre W → pre.length < len → YieldAt F (n - 1) Tryz.prog l (ev zs x) W fun e W' =>
   (e = .returned (.bool true) ∧ J (pre ++ [x]) W' ∧ Below n₀ W W') ∨ (e = .returned (.bool false) ∧ Jx (pre ++ [x]) W'))
  (W : World) (hBs : W.cell? ⟨Bs,0,none⟩ = some (.slice ao len cap)) (hc : ∀ b off,ao = some ⟨b,off,none⟩ → ∀ j,j < len → W.cell? ⟨b,off + j,none⟩ = some (.int .i64 (zs[j]?.getD 0))) (h0 : J [] W) :
  CallsIn F n Tryz.prog 126 #[.func (.yield l) #[] #[],.pointer (some ⟨Bs,0,none⟩)] W fun e W' => (∃ v,e = .returned v) ∧
   ((∃ ys,ys = come len 0 ∧ J ys W') ∨ (∃ pre,(∃ k,k ≤ len ∧ pre = come len k) ∧ Jx pre W')) := by
 refine callsIn_of_wp Tryz.func126 rfl hf ?_ hro
 simp only [Tryz.ntmps126,List.size_toArray,List.length_cons,List.length_nil,Nat.reduceAdd,Nat.reduceSub,Array.replicate_succ,Array.replicate_zero,List.push_toArray,List.append_toArray,List.nil_append,List.cons_append]
 gi_wp2
 gi_loopw [3] (fun i wr => ∃ m : Nat,m ≤ len ∧ i = .int .i64 ((m : Int) - 1) ∧ J (come len m) wr ∧ Below n₀ W wr) (fun i _ => (intOf i + 1).toNat)
 case atStart => exact ⟨len,Nat.le_refl _,by first | rfl | go_num,by unfold come; rw [Nat.sub_self]; exact h0,Below.refl _ _⟩
 case round =>
  obtain ⟨m,hm,rfl,hJs,hnx⟩ := hrel
  cases m with
  | zero =>
   gi_wp2
   go_end0
   exact ⟨⟨_,rfl⟩,.inl ⟨_,rfl,hJs⟩⟩
  | succ m =>
   obtain ⟨b,off,rfl,hb⟩ := hs.resolve_left (fun e => by rw [e] at hlen; simp at hlen; omega)
   have hBx : wr.cell? ⟨Bs,0,none⟩ = some (.slice (some ⟨b,off,none⟩) len cap) := (hnx.cell (p := ⟨Bs,0,none⟩) hB).trans hBs
   have hcx : wr.cell? ⟨b,off + m,none⟩ = some (.int .i64 (zs[m]?.getD 0)) := (hnx.cell (p := ⟨b,off + m,none⟩) hb).trans (hc b off rfl m (by omega))
   rw [show ((m + 1 : Nat) : Int) - 1 = (m : Int) by omega]
   obtain ⟨fn,tmps,assign,body,hy,hR⟩ := hY _ ⟨m,by omega⟩ wr hJs (by rw [come_len (by omega)]; omega)
   unfold ev at hy
   dsimp only at hy
   have hml : m < len := by omega
   gi_wp2
   refine hR.mono ?_
   rintro e W3 (⟨rfl,hJ3,hk3⟩ | ⟨rfl,hJx3⟩)
   ·
    gi_wp2
    go_roundw
    case rel => exact ⟨m,by omega,by first | rfl | go_num,by rw [come_succ hml]; exact hJ3,hnx.trans hk3⟩
    case measure => simp [intOf] <;> omega
   ·
    gi_wp2
    refine bodyPost_ret (results_none rfl _ _ _) rfl ?_
    exact ⟨⟨_,rfl⟩,.inr ⟨_,⟨m,by omega,(come_succ hml).symm⟩,hJx3⟩⟩
set_option maxHeartbeats 1000000 in
theorem backward (F : Fence) (n : Nat) (hf : F.fn 87) (hro : F.round = none) (a : Option Addr) (len cap : Nat) (w : World) :
  CallsIn F n Tryz.prog 87 #[.slice a len cap] w fun e w' => e = .returned (.func (.func 126) #[] #[.pointer (some ⟨w.heap.size,0,none⟩)]) ∧ w' = w.alloc (.cells #[.slice a len cap] 46) := by
 refine callsIn_of_wp Tryz.func87 rfl hf ?_ hro
 simp only [Tryz.ntmps87,List.size_toArray,List.length_cons,List.length_nil,Nat.reduceAdd,Nat.reduceSub,Array.replicate_succ,Array.replicate_zero,List.push_toArray,List.append_toArray,List.nil_append,List.cons_append]
 gi_wp2
 go_ret
 exact ⟨rfl,rfl⟩
theorem stops (F : Fence) (n : Nat) (hf : F.fn 126) (hro : F.round = none) (hn : 1 ≤ n) (Bs n₀ : Nat) (ao : Option Addr) (len cap : Nat) (zs : List Int) (w : World) (hZ : Ni.Zs w ao len cap zs) (hBs : w.cell? ⟨Bs,0,none⟩ = some (.slice ao len cap)) (hB : Bs < n₀) (hn₀ : n₀ ≤ w.heap.size) (hao : ∀ ad,ao = some ad → ad.block < n₀) :
  SeqStopsK F n Tryz.prog 126 #[.pointer (some ⟨Bs,0,none⟩)] (ev zs (n := len)) (Below n₀) (fun ys => ys = come len 0) (fun pre => ∃ k,k ≤ len ∧ pre = come len k) len w := fun l J Jx W hW _ _ hY h0 => by
 have hW' : Below n₀ w W := hW.mono hn₀
 have hl := hZ.len
 refine closure F n hf hro hn l Bs n₀ ao len cap zs hB hl hZ.fits hZ.reach ?_ J Jx hY W ((hW'.cell (p := ⟨Bs,0,none⟩) hB).trans hBs) (fun b off e j hj => ?_) h0
 ·
  rcases hZ.seg with e | ⟨b,off,e,_⟩
  · exact .inl e
  · exact .inr ⟨b,off,e,hao _ e⟩
 ·
  rcases hZ.seg with e2 | ⟨b2,off2,e2,hc⟩
  ·
   rw [e2] at hl
   simp at hl
   omega
  ·
   rw [e2] at e
   cases e
   rw [(hW'.cell (p := ⟨b,off + j,none⟩) (hao ⟨b,off,none⟩ e2)).trans (hc j (by omega)),List.getElem?_eq_getElem (by omega)]
   rfl
end Go.Proofs.YtlmjeackfepllaaGreatDoor.Bw
namespace Go.Proofs.YtlmjeackfepllaaGreatDoor.Wl
open Go.RowKit Go.Shelf
open Mem Dk
attribute [local go_sem] Oper.semAt_some
theorem kept_block {A B : World} {row : Option Nat} {b : Nat} {c : Array Value} {ty : TypeId} {fr : Nat × Nat} (h : A.heap[b]? = some (.cells c ty fr)) (hg : A.grownBy B row) (hr : ∀ r,row = some r → ∃ o : Obj,A.heap[r]? = some o ∧ o.isCells = false) : B.heap[b]? = some (.cells c ty fr) := (grownBy_keeps_cells hg hr h rfl).trans h
theorem kept_rows {A B : World} {row : Option Nat} {Bn e k : Nat} {v : Value} {n : Nat} {xs : List Value} (h : A.ownsRow Bn e k v n xs) (hg : A.grownBy B row) (hr : ∀ r,row = some r → ∃ o : Obj,A.heap[r]? = some o ∧ o.isCells = false) : B.ownsRow Bn e k v n xs := by
 obtain ⟨h1,h2⟩ := h
 refine ⟨h1,?_⟩
 rcases h2 with h2 | ⟨g,cap,cur,h',hb,hg',h3⟩
 · exact .inl h2
 · exact .inr ⟨g,cap,cur,h',hb,kept_block hg' hg hr,h3⟩
theorem upd_turn {Q : Nat → Prop} {W4 A B : World} {row : Option Nat} (h : UpdQ Q W4 A) (hg : A.grownBy B row) (hr : ∀ r,row = some r → W4.heap.size ≤ r) : UpdQ Q W4 B :=
 upd_nw ((h.mono fun b z => .inl z).trans ((UpdQ.grown hg).mono fun b z => .inr (hr b z)))
structure FoundM (W4 W : World) (g p b1 b2 k : Nat) (f : Bool) (s : Sg) (v : Sl) (t : Bool) (at' : Nat) : Prop where
 c1 : W.cell? ⟨b1,0,none⟩ = some (.bool t)
 c2 : W.cell? ⟨b2,0,none⟩ = some (.int .i64 (at' : Int))
 blk : Blk W g 2 82 [.pointer (some ⟨p,0,none⟩),.int .i64 (k : Int)] [.bool f] (row s.h v) s.begun s.ready
 own : Et.Own W 0 (sv v) s.h.log
 upd : UpdQ (fun b => b = g ∨ b = b1 ∨ b = b2) W4 W
 pv : ∀ b,(sv v).ownBlock = some b → W4.heap.size ≤ b ∧ b ≠ g
 short : ∀ e ∈ s.h.log,Et.Short e
 few : s.h.log.length ≤ 200
 base : 0 ≤ s.h.base ∧ s.h.base ≤ 1099511627776
 fit : Fit s.h.term ∧ Fit s.h.vote ∧ Fit s.h.bt ∧ Fit s.h.mem
 snap : s.h.snap = .empty
theorem FoundM.turn {W4 A B : World} {g p b1 b2 k : Nat} {f : Bool} {s : Sg} {v : Sl} {t : Bool} {at' : Nat} {row : Option Nat} (h : FoundM W4 A g p b1 b2 k f s v t at') (hg : A.grownBy B row) (hr : ∀ r,row = some r → W4.heap.size ≤ r ∧ ∃ o : Obj,A.heap[r]? = some o ∧ o.isCells = false) : FoundM W4 B g p b1 b2 k f s v t at' :=
 have hr2 := fun r e => (hr r e).2
 ⟨cell_kept h.c1 hg hr2,cell_kept h.c2 hg hr2,⟨h.blk.1,kept_block h.blk.2 hg hr2⟩,kept_rows h.own hg hr2,upd_turn h.upd hg fun r e => (hr r e).1,h.pv,h.short,h.few,h.base,h.fit,h.snap⟩
theorem keepsOthers_below {A B : World} (h : Below A.heap.size A B) : KeepsOthers A B := ⟨h.size,fun k o hk _ => (h.block k (Array.getElem?_eq_some_iff.1 hk).1).trans hk⟩
theorem keepsOthers_upd {Q : Nat → Prop} {A B : World} (h : UpdQ Q A B) (hc : ∀ b,Q b → b < A.heap.size → ∃ c ty fr,A.heap[b]? = some (.cells c ty fr)) : KeepsOthers A B :=
 ⟨h.size,fun k o hk ho => by
  have hl := (Array.getElem?_eq_some_iff.1 hk).1
  refine (h.block k hl fun z => ?_).trans hk
  obtain ⟨c,ty,fr,e⟩ := hc k z hl
  rw [e] at hk
  cases hk
  cases ho⟩
theorem findL_none {fs : List F} : ∀ l : List Nat,(∀ m ∈ l,(read (flOf fs m)).1.ready = false) → findL fs l = (0,empty,false,0)
 | [],_ => rfl
 | m :: l,h => by
  rw [findL,if_neg (by rw [h m (List.mem_cons_self ..)]; simp)]
  exact findL_none l fun x hx => h x (List.mem_cons_of_mem _ hx)
theorem findL_hit {fs : List F} {n : Nat} (hr : (read (flOf fs n)).1.ready = true) (l2 : List Nat) : ∀ l : List Nat,(∀ m ∈ l,(read (flOf fs m)).1.ready = false) → findL fs (l ++ n :: l2) = (n,(read (flOf fs n)).1,decide ((read (flOf fs n)).2 < (flOf fs n).length),(read (flOf fs n)).2)
 | [],_ => by rw [List.nil_append,findL,if_pos hr]
 | m :: l,h => by
  rw [List.cons_append,findL,if_neg (by rw [h m (List.mem_cons_self ..)]; simp)]
  exact findL_hit hr l2 l fun x hx => h x (List.mem_cons_of_mem _ hx)
theorem rev_fin (ks : List Nat) (m : Nat) (hm : m = ks.length) : ks.reverse = ((List.finRange m).reverse).map fun x : Fin m => ks[x.val]'(hm ▸ x.isLt) := by
 subst hm
 rw [List.map_reverse]
 congr 1
 apply List.ext_getElem
 · simp
 ·
  intro i h1 h2
  simp
theorem findL_come {fs : List F} {ks : List Nat} {m : Nat} (hm : m = ks.length) {pre : List (Fin m)} {x : Fin m} (h : ∃ k,k ≤ m ∧ pre ++ [x] = Bw.come m k) (hn : ∀ i ∈ pre,(read (flOf fs (ks[i.val]'(hm ▸ i.isLt)))).1.ready = false) (hr : (read (flOf fs (ks[x.val]'(hm ▸ x.isLt)))).1.ready = true) :
  findL fs ks.reverse = (ks[x.val]'(hm ▸ x.isLt),(read (flOf fs (ks[x.val]'(hm ▸ x.isLt)))).1,decide ((read (flOf fs (ks[x.val]'(hm ▸ x.isLt)))).2 < (flOf fs (ks[x.val]'(hm ▸ x.isLt))).length),(read (flOf fs (ks[x.val]'(hm ▸ x.isLt)))).2) := by
 obtain ⟨k,hk,e⟩ := h
 unfold Bw.come at e
 have e2 : (List.finRange m).reverse = pre ++ x :: ((List.finRange m).reverse).drop (m - k) := by
  conv => lhs; rw [← List.take_append_drop (m - k) (List.finRange m).reverse,← e]
  rw [List.append_assoc]
  rfl
 rw [rev_fin ks m hm,e2,List.map_append,List.map_cons]
 exact findL_hit hr _ _ fun y hy => by
  obtain ⟨i,hi,rfl⟩ := List.mem_map.1 hy
  exact hn i hi
theorem findL_all {fs : List F} {ks : List Nat} {m : Nat} (hm : m = ks.length) (hn : ∀ i ∈ Bw.come m 0,(read (flOf fs (ks[i.val]'(hm ▸ i.isLt)))).1.ready = false) : findL fs ks.reverse = (0,empty,false,0) := by
 refine findL_none _ fun y hy => ?_
 rw [rev_fin ks m hm] at hy
 obtain ⟨i,hi,rfl⟩ := List.mem_map.1 hy
 exact hn i (by unfold Bw.come; rw [List.take_of_length_le (by simp)]; exact hi)
def FindE (R : Nat → Prop) (w0 w : World) (g p : Nat) (f : Bool) (d : D) (x : Nat × Sg × Bool × Nat) (e : Ending) (w' : World) : Prop := e = .returned (.tuple #[.bool x.2.2.1,.int .i64 (x.2.2.2 : Int)]) ∧ Both (nw R w) w0 w' g p x.1 f x.2.1 d ∧ UpdQ R w w'
set_option maxHeartbeats 8000000 in
theorem wl_find {R : Nat → Prop} {w0 w : World} {g p : Nat} {f : Bool} {d : D} (h : Both R w0 w g p 0 f empty d) (ao : Option Addr) (m cap : Nat) (ks : List Nat) (hI : Ni.Zs w ao m cap (ks.map fun k : Nat => (k : Int))) (hao : ∀ ad,ao = some ad → ad.block < w.heap.size) (hk : ∀ k ∈ ks,k < 100) :
  Calls Tryz.prog 41 #[.pointer (some ⟨g,0,none⟩),.slice ao m cap] w (FindE R w0 w g p f d (findL d.fs ks.reverse)) := by
 have HM : Hid (m = ks.length) := Lib.hid (by have := hI.len; rw [List.length_map] at this; exact this)
 refine (callsIn_wide (n := 3)).1 ?_
 refine callsIn_of_wp_marks Tryz.func41 rfl trivial ?_ rfl
 simp only [Tryz.ntmps41,List.size_toArray,List.length_cons,List.length_nil,Nat.reduceAdd,Nat.reduceSub,Array.replicate_succ,Array.replicate_zero,List.push_toArray,List.append_toArray,List.nil_append,List.cons_append]
 gi_wp2_with (refine ⟨trivial,?_⟩; gi_at_call 87; refine (Bw.backward Fence.wide (3 - 1) trivial rfl _ _ _ _).mono ?_; rintro e w' ⟨rfl,rfl⟩)
 obtain ⟨W1,hW1⟩ : ∃ W1,w.alloc (.cells #[.pointer (some ⟨g,0,none⟩)] 24) = W1 := ⟨_,rfl⟩
 have z1 : Below w.heap.size w W1 := hW1 ▸ (Below.refl _ _).alloc (Nat.le_refl _) _
 have s1 : W1.heap.size = w.heap.size + 1 := by rw [← hW1]; simp
 have q0 : W1.heap[w.heap.size]? = some (.cells #[.pointer (some ⟨g,0,none⟩)] 24 (0,0)) := hW1 ▸ heap_alloc_new w _
 obtain ⟨W2,hW2⟩ : ∃ W2,W1.alloc (.cells #[.bool false] 4) = W2 := ⟨_,rfl⟩
 have z2 : Below W1.heap.size W1 W2 := hW2 ▸ (Below.refl _ _).alloc (Nat.le_refl _) _
 have s2 : W2.heap.size = w.heap.size + 1 + 1 := by rw [← hW2,← s1]; simp
 have q1 : W2.heap[w.heap.size + 1]? = some (.cells #[.bool false] 4 (0,0)) := s1 ▸ hW2 ▸ heap_alloc_new W1 _
 obtain ⟨W3,hW3⟩ : ∃ W3,W2.alloc (.cells #[.int .i64 0] 3) = W3 := ⟨_,rfl⟩
 have z3 : Below W2.heap.size W2 W3 := hW3 ▸ (Below.refl _ _).alloc (Nat.le_refl _) _
 have s3 : W3.heap.size = w.heap.size + 1 + 1 + 1 := by rw [← hW3,← s2]; simp
 have q2 : W3.heap[w.heap.size + 1 + 1]? = some (.cells #[.int .i64 0] 3 (0,0)) := s2 ▸ hW3 ▸ heap_alloc_new W2 _
 obtain ⟨W4,hW4⟩ : ∃ W4,W3.alloc (.cells #[.slice ao m cap] 46) = W4 := ⟨_,rfl⟩
 have z4 : Below W3.heap.size W3 W4 := hW4 ▸ (Below.refl _ _).alloc (Nat.le_refl _) _
 have hs4 : W4.heap.size = w.heap.size + 1 + 1 + 1 + 1 := by rw [← hW4,← s3]; simp
 have k3 : W4.heap[w.heap.size + 1 + 1 + 1]? = some (.cells #[.slice ao m cap] 46 (0,0)) := s3 ▸ hW4 ▸ heap_alloc_new W3 _
 have k2 : W4.heap[w.heap.size + 1 + 1]? = some (.cells #[.int .i64 0] 3 (0,0)) := (z4.block _ (by omega)).trans q2
 have k1 : W4.heap[w.heap.size + 1]? = some (.cells #[.bool false] 4 (0,0)) := ((bchain z3 z4).block _ (by omega)).trans q1
 have k0 : W4.heap[w.heap.size]? = some (.cells #[.pointer (some ⟨g,0,none⟩)] 24 (0,0)) := ((bchain z2 (bchain z3 z4)).block _ (by omega)).trans q0
 have hb4 : Below w.heap.size w W4 := bchain z1 (bchain z2 (bchain z3 z4))
 have c3 : W4.cell? ⟨w.heap.size + 1 + 1 + 1,0,none⟩ = some (.slice ao m cap) := by rw [cell_of_row W4 _ _ _ _ _ k3]; rfl
 have hZ : Ni.Zs W4 ao m cap (ks.map fun k : Nat => (k : Int)) := hI.below hb4
 rw [hW1,hW2,hW3]
 rw [hW4]
 have HB := Lib.hid (h.later hb4)
 clear hW1 hW2 hW3 hW4 q0 q1 q2 z1 z2 z3 z4 s1 s2 s3 W1 W2 W3
 refine wpIn_rangeFunc_ownF rfl (show 1 ≤ 3 by omega) (gf := 126) (lb := #[.pointer (some ⟨w.heap.size + 1 + 1 + 1,0,none⟩)]) rfl trivial (enters_of Tryz.func126 (by kernel_rfl) rfl)
  (Bw.stops Fence.wide (3 - 1) trivial rfl (by omega) (w.heap.size + 1 + 1 + 1) W4.heap.size ao m cap (ks.map fun k : Nat => (k : Int)) W4 hZ c3 (by omega) (Nat.le_refl _) (fun ad e => by have := hao ad e; omega)) belowK_t (belowK_b (Nat.le_refl _)) (Below.refl _ _) (fun _ => rfl)
  (fun pre W => (∀ i ∈ pre,(read (flOf d.fs (ks[i.val]'(HM.out ▸ i.isLt)))).1.ready = false) ∧ Below W4.heap.size W4 W)
  (fun c pre W => c = .ret ∧ ∃ (pre' : List (Fin m)) (x : Fin m),pre = pre' ++ [x] ∧ (∀ i ∈ pre',(read (flOf d.fs (ks[i.val]'(HM.out ▸ i.isLt)))).1.ready = false) ∧ (read (flOf d.fs (ks[x.val]'(HM.out ▸ x.isLt)))).1.ready = true ∧ ∃ v,FoundM W4 W g p (w.heap.size + 1) (w.heap.size + 1 + 1) (ks[x.val]'(HM.out ▸ x.isLt)) f (read (flOf d.fs (ks[x.val]'(HM.out ▸ x.isLt)))).1 v (decide ((read (flOf d.fs (ks[x.val]'(HM.out ▸ x.isLt)))).2 < (flOf d.fs (ks[x.val]'(HM.out ▸ x.isLt))).length)) (read (flOf d.fs (ks[x.val]'(HM.out ▸ x.isLt)))).2)
  (OwnFrom.and (ownFrom_pure _ _) (ownFrom_below (Nat.le_refl _) (Nat.le_refl _)))
  (fun c => fun s A B row hs hg hr => by
   obtain ⟨e,pre',x,h1,h2,h3,v,hF⟩ := hs
   exact ⟨e,pre',x,h1,h2,h3,v,hF.turn hg hr⟩)
  ⟨(fun i hi => by cases hi),Below.refl _ _⟩
  (fun x => { tmps := #[.pointer (some ⟨g,0,none⟩),.slice ao m cap,.pointer (some ⟨w.heap.size,0,none⟩),undef,.pointer (some ⟨w.heap.size + 1,0,none⟩),.pointer (some ⟨w.heap.size + 1 + 1,0,none⟩),undef,.int .i64 ((ks.map fun k : Nat => (k : Int))[x.val]?.getD 0),undef,undef,undef,undef,.slice ao m cap,.func (.func 126) #[] #[.pointer (some ⟨w.heap.size + 1 + 1 + 1,0,none⟩)],.int .i64 (x.val : Int),.int .i64 ((ks.map fun k : Nat => (k : Int))[x.val]?.getD 0),undef,undef,undef,undef,undef,undef,undef,undef,undef,undef,undef,undef,undef,undef,undef,undef,undef,undef,undef,undef,undef,undef,undef,undef,undef,undef,undef,undef,undef,undef],defers := [] }) ?assign ?body ?done ?stop
 case assign =>
  intro l x W K hK
  unfold Bw.ev
  generalize (ks.map fun k : Nat => (k : Int))[x.val]?.getD 0 = y at hK ⊢
  gi_wp2
  exact hK
 case body =>
  rintro l pre x W ⟨hpre,hB⟩ hlt
  have hxl : x.val < ks.length := HM.out ▸ x.isLt
  have hke : (ks.map fun k : Nat => (k : Int))[x.val]?.getD 0 = ((ks[x.val] : Nat) : Int) := by
   rw [List.getElem?_map,List.getElem?_eq_getElem hxl]
   rfl
  rw [hke]
  obtain ⟨k,hkx⟩ : ∃ k,ks[x.val] = k := ⟨_,rfl⟩
  have hk100 : k < 100 := hkx ▸ hk _ (List.getElem_mem hxl)
  rw [hkx]
  have HX := Lib.hid hkx
  have HBW := Lib.hid (HB.out.later hB)
  obtain ⟨P,Q,hp⟩ := HBW.out
  have HP := Lib.hid hp
  obtain ⟨g0,g1,g11,gz,glt⟩ := hp.wal.cells
  have a0 : W.cell? ⟨w.heap.size,0,none⟩ = some (.pointer (some ⟨g,0,none⟩)) := by
   rw [cell_of_row W _ _ _ _ _ ((hB.block _ (by omega)).trans k0)]
   rfl
  have hmx : Tryz.prog.follows .mixedOrders = true := by kernel_rfl
  have CR : Hid (∀ u,Below W.heap.size W u → Calls Tryz.prog 64 #[.pointer (some ⟨p,0,none⟩),.string (wname k)] u fun e w' => ∃ (ao : Option Addr) (n : Nat) (b : Bool),e = .returned (.tuple #[.slice ao n n,.bool b]) ∧ By.Ls w' ao n n (flOf d.fs k) ∧ n ≤ 140737488355328 ∧ Below W.heap.size W w') := Lib.hid fun u hb => by
   refine (s_read (HP.out.dsk.later hb) (wname k)).mono ?_
   rintro e w' ⟨b,⟨hh,rfl⟩ | ⟨hh,g',rfl,hb',_⟩⟩
   ·
    refine ⟨none,0,false,rfl,?_,by omega,bchain hb b⟩
    unfold flOf
    rw [own_no hh]
    exact By.ls_nil _
   ·
    have ho := HP.out.dsk.dsk.elim fun v h => h.elim fun L h => h.elim fun rs h => h.ok
    have h1 := Dk.total_mem (f := Dk.own (wname k) d.fs) (l := d.fs) (by rw [own_at ho.sorted hh]; exact List.getElem_mem _)
    have := ho.room
    exact ⟨some ⟨g',0,none⟩,_,true,rfl,hb'.ls (by omega),by omega,bchain hb b⟩
  have CD : Hid (∀ u ao n,Below W.heap.size W u → By.Ls u ao n n (flOf d.fs k) → n ≤ 140737488355328 → Calls Tryz.prog 88 #[.slice ao n n] u (ReadE u (flOf d.fs k))) := Lib.hid fun u ao n hb hL hn => wl_read ao n n _ u hL hn
  clear hp g1 g11
  gi_wp2_with fail
  refine wpIn_mono (Q := fun e a' w' => e = .normal ∧ ∃ (ao3 : Option Addr) (n3 : Nat) (b3 : Bool),a' = { tmps := #[.pointer (some ⟨g,0,none⟩),.slice ao m cap,.pointer (some ⟨w.heap.size,0,none⟩),undef,.pointer (some ⟨w.heap.size + 1,0,none⟩),.pointer (some ⟨w.heap.size + 1 + 1,0,none⟩),undef,.int .i64 (k : Int),.slice ao3 n3 n3,.bool b3,undef,undef,.slice ao m cap,.func (.func 126) #[] #[.pointer (some ⟨w.heap.size + 1 + 1 + 1,0,none⟩)],.int .i64 (x.val : Int),.int .i64 (k : Int),.tuple #[.slice ao3 n3 n3,.bool b3],.pointer (some ⟨g,0,none⟩),.pointer (some ⟨g,0,none⟩),.pointer (some ⟨g,0,none⟩),.pointer (some ⟨p,0,none⟩),.int .i64 (k : Int),.string (wname k),.tuple #[.slice ao3 n3 n3,.bool b3],.slice ao3 n3 n3,.bool b3,undef,undef,undef,undef,undef,undef,undef,undef,undef,undef,undef,undef,undef,undef,undef,undef,undef,undef,undef,undef],defers := [] } ∧ By.Ls w' ao3 n3 n3 (flOf d.fs k) ∧ n3 ≤ 140737488355328 ∧ Below W.heap.size W w') ?_ ?_
  ·
   gi_region_with_o (first | (refine ⟨trivial,?_⟩; gi_at_call 43; refine (CallsIn.inRound l (callsIn_wide.2 (wl_name k hk100 _))).mono ?_; rintro e u ⟨rfl,rfl⟩) | (refine ⟨trivial,?_⟩; gi_at_call 64; refine (CallsIn.inRound l (callsIn_wide.2 (CR.out _ ((Below.refl _ _).drew)))).mono ?_; rintro e u3 ⟨ao3,n3,b3,rfl,hl3,hn3,hb3⟩))
   all_goals exact ⟨rfl,ao3,n3,b3,rfl,hl3,hn3,hb3⟩
  rintro e a' u3 ⟨rfl,ao3,n3,b3,rfl,hl3,hn3,hb3⟩
  have CD3 := Lib.hid (CD.out u3 ao3 n3 hb3 hl3 hn3)
  have HL3 := Lib.hid hl3
  have HB3 := Lib.hid hb3
  obtain ⟨sg,hsg⟩ : ∃ sg,read (flOf d.fs k) = sg := ⟨_,rfl⟩
  obtain ⟨s',at'⟩ := sg
  unfold ReadE at CD3
  rw [hsg] at CD3
  dsimp only at CD3
  obtain ⟨sh,sb,sr⟩ := s'
  have HN3 := Lib.hid hl3.len
  have HS := Lib.hid hsg
  clear hl3 hb3 CR CD a0 g0 gz glt hsg
  cases sr
  ·
   gi_wp2_with (first | (refine ⟨trivial,?_⟩; gi_at_call 88; refine (CallsIn.inRound l (callsIn_wide.2 CD3.out)).mono ?_; rintro e u4 ⟨⟨vo,vn,vc⟩,rfl,hvl,hb4'⟩; have HV := Lib.hid hvl; have HB4 := Lib.hid hb4'; clear hvl hb4' CD3; unfold val) | fail)
   have HW5 := Lib.hid (bchain HB3.out (bchain HB4.out ((Below.refl u4.heap.size u4).alloc (Nat.le_refl _) (.cells #[.int .i64 sh.term,.int .i64 sh.vote,.int .i64 sh.base,.int .i64 sh.bt,.int .i64 sh.mem,.string sh.snap,.slice vo vn vc,.bool sb,.bool false] 79))))
   refine ⟨keepsOthers_below HW5.out,HW5.out.mono hB.size,fun i hi => ?_,hB.trans (HW5.out.mono hB.size)⟩
   rcases List.mem_append.1 hi with hi | hi
   · exact hpre i hi
   · rw [List.mem_singleton.1 hi,HX.out,HS.out]
  ·
   gi_wp2_with (first | (refine ⟨trivial,?_⟩; gi_at_call 88; refine (CallsIn.inRound l (callsIn_wide.2 CD3.out)).mono ?_; rintro e u4 ⟨⟨vo,vn,vc⟩,rfl,hvl,hb4'⟩; have HV := Lib.hid hvl; have HB4 := Lib.hid hb4'; clear hvl hb4' CD3; unfold val) | fail)
   obtain ⟨W5,hW5⟩ : ∃ W5,u4.alloc (.cells (cel (row sh ⟨vo,vn,vc⟩) sb true).toArray 79) = W5 := ⟨_,rfl⟩
   have hb5 : Below W.heap.size W W5 := hW5 ▸ bchain HB3.out (bchain HB4.out ((Below.refl u4.heap.size u4).alloc (Nat.le_refl _) _))
   have hk5 : Blk W5 u4.heap.size 0 79 [] [] (row sh ⟨vo,vn,vc⟩) sb true := hW5 ▸ blk_new u4 _ _ _ _
   have hu5 : W.heap.size ≤ u4.heap.size := Nat.le_trans HB3.out.size HB4.out.size
   have HP5 := Lib.hid (HP.out.later hb5)
   have HVL := Lib.hid (HV.out.below (u := W5) (hW5 ▸ (Below.refl u4.heap.size u4).alloc (Nat.le_refl _) _))
   have HB5 := Lib.hid hb5
   change Code.wpIn _ _ _ _ _ _ (u4.alloc (.cells (cel (row sh ⟨vo,vn,vc⟩) sb true).toArray 79))
   rw [hW5]
   obtain ⟨e0,e1,e2,e3,e4,e5,e6,e7,e8⟩ := hk5.cells
   unfold row at e0 e1 e2 e3 e4 e5 e6
   unfold sv at e6
   dsimp only at e0 e1 e2 e3 e4 e5 e6
   rw [Nat.zero_add] at e1 e2 e3 e4 e5 e6 e7 e8
   obtain ⟨g0,g1,g11,gz,glt⟩ := HP5.out.wal.cells
   obtain ⟨i0,i1,i2,i3,i4,tt,wo,wn,wc,bb,cc,n0,n1,n2,n3',n4,n5,n6,n7,n8⟩ := HP5.out.wal.nine
   have a0 : W5.cell? ⟨w.heap.size,0,none⟩ = some (.pointer (some ⟨g,0,none⟩)) := by
    rw [cell_of_row W5 _ _ _ _ _ ((hb5.block _ (by have := hB.size; omega)).trans ((hB.block _ (by omega)).trans k0))]
    rfl
   have HG := Lib.hid hu5
   have gne2 : g ≠ u4.heap.size := by have := HP.out.pl g HP.out.wal.pg; omega
   have gne3 : u4.heap.size ≠ g := fun z => gne2 z.symm
   have gne : (g == u4.heap.size) = false := beq_eq_false_iff_ne.2 gne2
   have gne4 : (u4.heap.size == g) = false := beq_eq_false_iff_ne.2 gne3
   clear hW5 hb5 hk5 hu5
   refine wpIn_mono (Q := fun e a' w' => e = .normal ∧ a' = { tmps := #[.pointer (some ⟨g,0,none⟩),.slice ao m cap,.pointer (some ⟨w.heap.size,0,none⟩),undef,.pointer (some ⟨w.heap.size + 1,0,none⟩),.pointer (some ⟨w.heap.size + 1 + 1,0,none⟩),undef,.int .i64 (k : Int),.slice ao3 n3 n3,.bool b3,.pointer (some ⟨u4.heap.size,0,none⟩),.int .i64 (at' : Int),.slice ao m cap,.func (.func 126) #[] #[.pointer (some ⟨w.heap.size + 1 + 1 + 1,0,none⟩)],.int .i64 (x.val : Int),.int .i64 (k : Int),.tuple #[.slice ao3 n3 n3,.bool b3],.pointer (some ⟨g,0,none⟩),.pointer (some ⟨g,0,none⟩),.pointer (some ⟨g,0,none⟩),.pointer (some ⟨p,0,none⟩),.int .i64 (k : Int),.string (wname k),.tuple #[.slice ao3 n3 n3,.bool b3],.slice ao3 n3 n3,.bool b3,.tuple #[.agg #[.int .i64 sh.term,.int .i64 sh.vote,.int .i64 sh.base,.int .i64 sh.bt,.int .i64 sh.mem,.string sh.snap,.slice vo vn vc,.bool sb,.bool true],.int .i64 (at' : Int)],.slice ao3 n3 n3,.tuple #[.agg #[.int .i64 sh.term,.int .i64 sh.vote,.int .i64 sh.base,.int .i64 sh.bt,.int .i64 sh.mem,.string sh.snap,.slice vo vn vc,.bool sb,.bool true],.int .i64 (at' : Int)],.agg #[.int .i64 sh.term,.int .i64 sh.vote,.int .i64 sh.base,.int .i64 sh.bt,.int .i64 sh.mem,.string sh.snap,.slice vo vn vc,.bool sb,.bool true],.int .i64 (at' : Int),.pointer (some ⟨u4.heap.size,8,none⟩),.bool true,.pointer (some ⟨g,0,none⟩),.pointer (some ⟨g,0,none⟩),.int .i64 (k : Int),.agg #[.int .i64 sh.term,.int .i64 sh.vote,.int .i64 sh.base,.int .i64 sh.bt,.int .i64 sh.mem,.string sh.snap,.slice vo vn vc,.bool sb,.bool true],.pointer (some ⟨g,0,none⟩),.pointer (some ⟨g,1,none⟩),.pointer (some ⟨g,0,none⟩),.pointer (some ⟨g,2,none⟩),undef,undef,undef,undef,undef],defers := [] } ∧ w' = (lay9 (W5.setCell ⟨g,1,none⟩ (.int .i64 (k : Int))) g 2 (row sh ⟨vo,vn,vc⟩) sb true).drew) ?_ ?_
   ·
    gi_region_with_o fail
    all_goals exact ⟨rfl,rfl,rfl⟩
   rintro e a' UU ⟨rfl,rfl,hUU⟩
   obtain ⟨v0,hseg0⟩ := (HP5.out.wal.count k).1
   have hbk : Blk UU g 2 82 [.pointer (some ⟨p,0,none⟩),.int .i64 (k : Int)] [.bool f] (row sh ⟨vo,vn,vc⟩) sb true := hUU ▸ (hseg0.blk.lay9 _ _ _).below (Below.refl _ _).drew
   have hup : UpdQ (fun b => b = g) W5 UU := hUU ▸ ((upd_set W5 g 1 _).trans (lay9_upd _ g 2 _ _ _)).trans (UpdQ.of (Below.refl _ _).drew)
   have hgw : g < w.heap.size := by
    obtain ⟨P9,Q9,h9⟩ := h
    exact h9.pl g h9.wal.pg
   have hW5 := HB5.out.size
   have hW4 := hB.size
   have hblk : ∀ b,b < W4.heap.size → b ≠ g → UU.heap[b]? = W4.heap[b]? := fun b z z2 => (hup.block b (by omega) z2).trans ((HB5.out.block b (by omega)).trans (hB.block b z))
   have m1 := (hblk (w.heap.size + 1) (by omega) (by omega)).trans k1
   have m2 := (hblk (w.heap.size + 1 + 1) (by omega) (by omega)).trans k2
   have d1 : UU.cell? ⟨w.heap.size + 1,0,none⟩ = some (.bool false) := by rw [cell_of_row UU _ _ _ _ _ m1]; rfl
   have d2 : UU.cell? ⟨w.heap.size + 1 + 1,0,none⟩ = some (.int .i64 0) := by rw [cell_of_row UU _ _ _ _ _ m2]; rfl
   have f1 := frozen_of_row UU (w.heap.size + 1) 0 _ _ m1
   have f2 := frozen_of_row UU (w.heap.size + 1 + 1) 0 _ _ m2
   have HBK := Lib.hid hbk
   have HUP := Lib.hid hup
   have HM := Lib.hid (And.intro m1 m2)
   have HGW := Lib.hid hgw
   have HSZ : Hid (UU.heap.size = W5.heap.size) := Lib.hid (by rw [hUU]; simp [lay9,lay])
   clear hUU hbk hup hblk m1 m2 hseg0 g0 g1 g11 gz glt n0 n1 n2 n3' n4 n5 n6 n7 n8 e0 e1 e2 e3 e4 e5 e6 e7 e8 a0 gne gne2 gne3 gne4 hgw
   gi_wp2_with fail
   obtain ⟨X,hX⟩ : ∃ X,(UU.setCell ⟨w.heap.size + 1,0,none⟩ (.bool (decide (at' < n3)))).setCell ⟨w.heap.size + 1 + 1,0,none⟩ (.int .i64 (at' : Int)) = X := ⟨_,rfl⟩
   have hu : UpdQ (fun b => b = w.heap.size + 1 ∨ b = w.heap.size + 1 + 1) UU X := hX ▸ ((upd_set UU (w.heap.size + 1) 0 _).mono fun b z => .inl z).trans ((upd_set _ (w.heap.size + 1 + 1) 0 _).mono fun b z => .inr z)
   have e1 : X.cell? ⟨w.heap.size + 1,0,none⟩ = some (.bool (decide (at' < n3))) := by
    rw [← hX,World.cell?_of_block (heap_setCell_other _ _ _ _ (show w.heap.size + 1 ≠ w.heap.size + 1 + 1 by omega))]
    exact World.cell?_setCell_same' _ _ _ (by rw [d1]; rfl)
   have e2 : X.cell? ⟨w.heap.size + 1 + 1,0,none⟩ = some (.int .i64 (at' : Int)) := by
    rw [← hX]
    refine World.cell?_setCell_same' _ _ _ ?_
    rw [World.cell?_of_block (heap_setCell_other _ _ _ _ (show w.heap.size + 1 + 1 ≠ w.heap.size + 1 by omega)),d2]
    rfl
   rw [hX]
   have hgw := HGW.out
   have hWX : UpdQ (fun b => b = g ∨ b = w.heap.size + 1 ∨ b = w.heap.size + 1 + 1) W X := ((UpdQ.of HB5.out).trans (HUP.out.mono fun b z => .inl z)).trans (hu.mono fun b z => .inr z)
   have hs4' := HB4.out.size
   have hs3' := HB3.out.size
   refine ⟨keepsOthers_upd hWX fun b z z2 => ?_,rfl,pre,x,rfl,hpre,by rw [HX.out,HS.out],⟨vo,vn,vc⟩,?_⟩
   ·
    rcases z with rfl | rfl | rfl
    ·
     obtain ⟨v9,h9⟩ := HP.out.wal
     exact ⟨_,_,_,h9.blk.2⟩
    · exact ⟨_,_,_,(hB.block _ (by omega)).trans k1⟩
    · exact ⟨_,_,_,(hB.block _ (by omega)).trans k2⟩
   ·
    rw [HX.out,HS.out,← HN3.out]
    refine ⟨e1,e2,⟨HBK.out.1,(hu.block g HBK.out.lt (by omega)).trans HBK.out.2⟩,?_,(UpdQ.of hB).trans hWX,fun b z => ?_,HVL.out.short,HVL.out.few,HVL.out.base,HVL.out.fit,HVL.out.snap⟩
    ·
     refine hu.rows (HUP.out.rows HVL.out.own fun b z => ?_) fun b z => ?_
     ·
      have := HVL.out.pv b z
      omega
     ·
      have := HVL.out.pv b z
      omega
    ·
     have := HVL.out.pv b z
     omega
 case done =>
  rintro D ys W hD rfl ⟨hpre,hB⟩ hK
  have hW4 := hB.size
  have m1 := (hB.block (w.heap.size + 1) (by omega)).trans k1
  have m2 := (hB.block (w.heap.size + 1 + 1) (by omega)).trans k2
  have d1 : W.cell? ⟨w.heap.size + 1,0,none⟩ = some (.bool false) := by rw [cell_of_row W _ _ _ _ _ m1]; rfl
  have d2 : W.cell? ⟨w.heap.size + 1 + 1,0,none⟩ = some (.int .i64 0) := by rw [cell_of_row W _ _ _ _ _ m2]; rfl
  have f1 := frozen_of_row W (w.heap.size + 1) 0 _ _ m1
  have f2 := frozen_of_row W (w.heap.size + 1 + 1) 0 _ _ m2
  have hbw := bchain hb4 hB
  clear m1 m2
  gi_wp2_with fail
  have hK' := (KeepsOthers.setCell (W.setCell ⟨w.heap.size + 1,0,none⟩ (.bool false)) ⟨w.heap.size + 1 + 1,0,none⟩ (.int .i64 0)).same D _ ((KeepsOthers.setCell W ⟨w.heap.size + 1,0,none⟩ (.bool false)).same D _ hK rfl) rfl
  refine ⟨by simp,.inl ⟨_,_,rfl,run_takeDeferred hK',?_⟩⟩
  have x1 : ((W.setCell ⟨w.heap.size + 1,0,none⟩ (.bool false)).setCell ⟨w.heap.size + 1 + 1,0,none⟩ (.int .i64 0)).cell? ⟨w.heap.size + 1,0,none⟩ = some (.bool false) := by
   rw [World.cell?_of_block (heap_setCell_other _ _ _ _ (show w.heap.size + 1 ≠ w.heap.size + 1 + 1 by omega))]
   exact World.cell?_setCell_same' _ _ _ (by rw [d1]; rfl)
  have x2 : ((W.setCell ⟨w.heap.size + 1,0,none⟩ (.bool false)).setCell ⟨w.heap.size + 1 + 1,0,none⟩ (.int .i64 0)).cell? ⟨w.heap.size + 1 + 1,0,none⟩ = some (.int .i64 0) := by
   refine World.cell?_setCell_same' _ _ _ ?_
   rw [World.cell?_of_block (heap_setCell_other _ _ _ _ (show w.heap.size + 1 + 1 ≠ w.heap.size + 1 by omega)),d2]
   rfl
  have hc1 := cell_kept x1 (grownBy_putObj' _ D (.deferred none)) (fun r e => by cases e; exact ⟨_,hK',rfl⟩)
  have hc2 := cell_kept x2 (grownBy_putObj' _ D (.deferred none)) (fun r e => by cases e; exact ⟨_,hK',rfl⟩)
  have hfin : Below w.heap.size w (((W.setCell ⟨w.heap.size + 1,0,none⟩ (.bool false)).setCell ⟨w.heap.size + 1 + 1,0,none⟩ (.int .i64 0)).putObj D (.deferred none)) := ((hbw.setCell (p := ⟨w.heap.size + 1,0,none⟩) (by show w.heap.size ≤ w.heap.size + 1; omega) _).setCell (p := ⟨w.heap.size + 1 + 1,0,none⟩) (by show w.heap.size ≤ w.heap.size + 1 + 1; omega) _).trans (belowK_b (w := w) (Nat.le_refl _) _ D _ _ (by omega) hK' rfl rfl)
  rw [findL_all HM.out hpre]
  refine ⟨.tuple #[.bool false,.int .i64 0],?_,rfl,(h.later hfin).mono fun b z => .inl z,UpdQ.of hfin⟩
  simp [results,Tryz.f41,go_sem,hc1,hc2]
 case stop =>
  rintro D c pre W hD hpre ⟨rfl,pre',x,rfl,h1,h2,v,hF⟩ hK
  have hF' := hF.turn (grownBy_putObj' W D (.deferred none)) (fun r e => by cases e; exact ⟨hD,_,hK,rfl⟩)
  obtain ⟨P,Q,hp⟩ := h
  have hw4 := hs4
  have hup : UpdQ P w (W.putObj D (.deferred none)) := upd_nw ((UpdQ.of hb4).trans (hF'.upd.mono fun b z => by
   rcases z with rfl | rfl | rfl
   · exact .inl hp.wal.pg
   · exact .inr (by omega)
   · exact .inr (by omega)))
  have hwal : Wal (nw P w) (W.putObj D (.deferred none)) g p (ks[x.val]'(HM.out ▸ x.isLt)) f (read (flOf d.fs (ks[x.val]'(HM.out ▸ x.isLt)))).1 := ⟨v,hF'.blk,hF'.own,.inl hp.wal.pg,fun b e => ⟨.inr (by have := (hF'.pv b e).1; omega),(hF'.pv b e).2⟩,hF'.short,hF'.few,hF'.base,hF'.fit,hF'.snap⟩
  have HE := Lib.hid (findL_come HM.out hpre h1 h2)
  have HT := Lib.hid (And.intro hp (And.intro hwal hup))
  have c1 := hF'.c1
  have c2 := hF'.c2
  clear hF hF' hp hwal hup hpre h1 h2
  gi_wp2_with fail
  refine ⟨by simp,.inl ⟨_,_,rfl,run_takeDeferred hK,?_⟩⟩
  rw [HE.out]
  refine ⟨_,?_,rfl,⟨_,_,HT.out.1.turn HT.out.2.1 HT.out.2.2⟩,HT.out.2.2.mono HT.out.1.pr⟩
  simp [results,Tryz.f41,go_sem,c1,c2]
end Go.Proofs.YtlmjeackfepllaaGreatDoor.Wl
