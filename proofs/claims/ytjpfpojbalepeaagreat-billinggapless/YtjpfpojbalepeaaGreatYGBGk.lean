/- SLICES OF TEXTS AND OF NUMBERS THAT GROW BESIDE A STATE; the names of the series and how many invoices each has. -/
import Derived.Test.YtjpfpojbalepeaaGreatZG14
import Derived.Test.YtjpfpojbalepeaaGreatZG4
set_option maxRecDepth 100000
set_option linter.unusedVariables false
namespace Go.Proofs.YtjpfpojbalepeaaGreat
open Go.RowKit
open Mem
theorem fixA {A g : Nat} {u : World} {h : Bl.Sv} {s : Bl.St} (_hL : Bl.LiesA A u h s) (hl : g < A) : g < A := hl
theorem kpP_grown {P : Nat → Prop} {u v : World} {row : Option Nat} (gr : u.grownBy v row) (hP : ∀ b,P b → row ≠ some b) : KpP P u v :=
 ⟨fun b o hb hl => World.cell?_of_block (gr.block b hl (fun k => hP b hb k.symm)),gr.size⟩
namespace V1
theorem infoS : (Tryz.prog.info? 9).map (fun i => (i.zero,i.size,i.bytes)) = some (some (.string .empty),1,16) := by kernel_rfl
theorem infoN : (Tryz.prog.info? 3).map (fun i => (i.zero,i.size,i.bytes)) = some (some (.int .i64 0),1,8) := by kernel_rfl
theorem appS {ops : Array Oper} {rest : List Oper} {o : Oper} {a : Act} {Q : Exit → Act → World → Prop} (u : World) (x : ByteArray) (hgd : o.guard = none) (s t : Operand)
  (ho : o.op = .call { callee := .builtin .append,args := #[s,t],argTypes := #[67,67] }) (B : Nat) (v : Value) (m : Nat) (xs : List Value) (hs : a.eval s = v) (hown : u.ownsRow B 9 1 v m xs)
  (hx : a.eval t = .slice (some ⟨u.heap.size,0,none⟩) 1 1) (hm : m ≤ 100000) (hB : B ≤ u.heap.size)
  (h : ∀ v' w1,w1.ownsRow B 9 1 v' (m + 1) (xs ++ [.string x]) → (u.alloc (.cells #[.string x] 9)).grownBy w1 v.ownBlock → (v'.ownBlock = v.ownBlock ∨ v'.ownBlock = some (u.heap.size + 1)) → wpList Tryz.prog ops Q rest (a.put o.dst v') w1) :
  wpList Tryz.prog ops Q (o :: rest) a (u.alloc (.cells #[.string x] 9)) := by
 obtain ⟨i0,hi,hz0,hz1,hz2⟩ := info_parts infoS
 have hmx : maxLen = 9223372036854775807 := rfl
 refine wpList_append_own_at (w := u.alloc (.cells #[.string x] 9)) hgd s t 67 ho B 9 i0 (.string .empty) 1 16 Tryz.underlying67 hi hz0 hz1 hz2 rfl (by omega) v m xs hs (World.ownsRow.alloc hown _) ⟨u.heap.size,0,none⟩ 1 1 [.string x] hx rfl (cell_one_new u _ _) (fun z hz => by rw [List.mem_singleton.1 hz]; rfl) (by omega) (by omega) (by simp; omega) ?_
 intro v' w' h1 h2 _ h3
 rw [show (u.alloc (.cells #[.string x] 9)).heap.size = u.heap.size + 1 by simp] at h3
 exact h v' w' h1 h2 h3
theorem appN {ops : Array Oper} {rest : List Oper} {o : Oper} {a : Act} {Q : Exit → Act → World → Prop} (u : World) (x : Int) (hgd : o.guard = none) (s t : Operand)
  (ho : o.op = .call { callee := .builtin .append,args := #[s,t],argTypes := #[68,68] }) (B : Nat) (v : Value) (m : Nat) (xs : List Value) (hs : a.eval s = v) (hown : u.ownsRow B 3 1 v m xs)
  (hx : a.eval t = .slice (some ⟨u.heap.size,0,none⟩) 1 1) (hm : m ≤ 100000) (hB : B ≤ u.heap.size)
  (h : ∀ v' w1,w1.ownsRow B 3 1 v' (m + 1) (xs ++ [.int .i64 x]) → (u.alloc (.cells #[.int .i64 x] 3)).grownBy w1 v.ownBlock → (v'.ownBlock = v.ownBlock ∨ v'.ownBlock = some (u.heap.size + 1)) → wpList Tryz.prog ops Q rest (a.put o.dst v') w1) :
  wpList Tryz.prog ops Q (o :: rest) a (u.alloc (.cells #[.int .i64 x] 3)) := by
 obtain ⟨i0,hi,hz0,hz1,hz2⟩ := info_parts infoN
 have hmx : maxLen = 9223372036854775807 := rfl
 refine wpList_append_own_at (w := u.alloc (.cells #[.int .i64 x] 3)) hgd s t 68 ho B 3 i0 (.int .i64 0) 1 8 Tryz.underlying68 hi hz0 hz1 hz2 rfl (by omega) v m xs hs (World.ownsRow.alloc hown _) ⟨u.heap.size,0,none⟩ 1 1 [.int .i64 x] hx rfl (cell_one_new u _ _) (fun z hz => by rw [List.mem_singleton.1 hz]; rfl) (by omega) (by omega) (by simp; omega) ?_
 intro v' w' h1 h2 _ h3
 rw [show (u.alloc (.cells #[.int .i64 x] 3)).heap.size = u.heap.size + 1 by simp] at h3
 exact h v' w' h1 h2 h3
variable {w u : World} {B : Nat} {e : TypeId} {v : Value} {n : Nat} {xs : List Value}
theorem below (h : w.ownsRow B e 1 v n xs) (k : Below w.heap.size w u) : u.ownsRow B e 1 v n xs := by
 obtain ⟨h1,h2⟩ := h
 refine ⟨h1,?_⟩
 rcases h2 with h2 | ⟨g,cap,cur,h',hb,hg,h3⟩
 · exact .inl h2
 ·
  have hl : g < w.heap.size := (Array.getElem?_eq_some_iff.1 hg).1
  exact .inr ⟨g,cap,cur,h',hb,(k.block g hl).trans hg,h3⟩
theorem grown {row : Option Nat} (h : w.ownsRow B e 1 v n xs) (gr : w.grownBy u row) (hr : ∀ k,v.ownBlock = some k → row ≠ some k) : u.ownsRow B e 1 v n xs := by
 obtain ⟨h1,h2⟩ := h
 refine ⟨h1,?_⟩
 rcases h2 with h2 | ⟨g,cap,cur,h',hb,hg,h3⟩
 · exact .inl h2
 ·
  have hl : g < w.heap.size := (Array.getElem?_eq_some_iff.1 hg).1
  exact .inr ⟨g,cap,cur,h',hb,(gr.block g hl (fun k => hr g (by rw [h']; rfl) k.symm)).trans hg,h3⟩
theorem far (h : w.ownsRow B e 1 v n xs) {p : Nat} (hp : ∀ k,v.ownBlock = some k → k ≠ p) (o : Nat) (x : Value) : (w.setCell ⟨p,o,none⟩ x).ownsRow B e 1 v n xs := by
 obtain ⟨h1,h2⟩ := h
 refine ⟨h1,?_⟩
 rcases h2 with h2 | ⟨g,cap,cur,h',hb,hg,h3⟩
 · exact .inl h2
 · exact .inr ⟨g,cap,cur,h',hb,by rw [heap_setCell_other w ⟨p,o,none⟩ g x (hp g (by rw [h']; rfl))]; exact hg,h3⟩
theorem slice (h : w.ownsRow B e 1 v n xs) : ∃ ao cap,v = .slice ao n cap ∧ n ≤ cap ∧ cap ≤ 9223372036854775807 := by
 rcases h.2 with ⟨h',h2⟩ | ⟨g,cap,cur,h',hb,hg,hnc,hcm,h3⟩
 · exact ⟨none,0,by rw [h',h2],by omega,by omega⟩
 · exact ⟨_,cap,h',hnc,hcm⟩
theorem «at» {ao : Option Addr} {cap : Nat} (h : w.ownsRow B e 1 (.slice ao n cap) n xs) (k : Nat) (hk : k < n) : ∃ g,ao = some ⟨g,0,none⟩ ∧ w.cell? ⟨g,k,none⟩ = xs[k]? ∧ (∀ o,w.frozen? ⟨g,o,none⟩ = false) ∧ B ≤ g := by
 rcases h.2 with ⟨h',h2⟩ | ⟨g,cap',cur,h',hb,hg,hnc,hcm,hcs,htake⟩
 · omega
 ·
  simp only [Value.slice.injEq] at h'
  refine ⟨g,h'.1,?_,fun o => frozen_of_row w g o _ _ hg,hb⟩
  rw [cell_of_row w g k _ _ _ hg,← htake,List.getElem?_take_of_lt (by omega)]
  simp
theorem put {g cap : Nat} (h : w.ownsRow B e 1 (.slice (some ⟨g,0,none⟩) n cap) n xs) (k : Nat) (hk : k < n) (x : Value) : (w.setCell ⟨g,k,none⟩ x).ownsRow B e 1 (.slice (some ⟨g,0,none⟩) n cap) n (xs.set k x) := by
 rcases h.2 with ⟨h',_⟩ | ⟨g',cap',cur,h',hb,hg,hnc,hcm,hcs,htake⟩
 · cases h'
 ·
  simp only [Value.slice.injEq,Option.some.injEq,Addr.mk.injEq,and_true,true_and] at h'
  obtain ⟨e1,e3⟩ := h'
  subst e1 e3
  have h1 := heap_setCell_same _ g k _ _ x hg
  refine ⟨by rw [List.length_set]; exact h.1,.inr ⟨g,cap,_,rfl,hb,h1,hnc,hcm,by simpa using hcs,?_⟩⟩
  simp only [Array.toList_setIfInBounds]
  rw [← htake,List.take_set]
end V1
namespace Bl
structure Nm (ps : List Ps) (i : Nat) (ns : List ByteArray) (ks : List Int) : Prop where
 all : ∀ p ∈ ps.take i,p.ser ∈ ns
 nod : ns.Nodup
 cnt : ks = ns.map (fun c => (Bl.cnt c (ps.take i) : Int))
theorem nm_0 (ps : List Ps) : Nm ps 0 [] [] := ⟨fun p hp => by simp at hp,List.nodup_nil,rfl⟩
variable {ps : List Ps} {i : Nat} {ns : List ByteArray} {ks : List Int}
theorem Nm.len (h : Nm ps i ns ks) : ks.length = ns.length := by rw [h.cnt,List.length_map]
theorem Nm.get (h : Nm ps i ns ks) (k : Nat) (hk : k < ns.length) : ks[k]'(h.len ▸ hk) = (Bl.cnt ns[k] (ps.take i) : Int) := by
 have e := h.cnt
 subst e
 rw [List.getElem_map]
theorem Nm.new (h : Nm ps i ns ks) {c : ByteArray} (hn : ∀ (k : Nat) (hk : k < ns.length),ns[k] ≠ c) : Nm ps i (ns ++ [c]) (ks ++ [0]) := by
 have hc : c ∉ ns := fun hm => by
  obtain ⟨k,hk,e⟩ := List.getElem_of_mem hm
  exact hn k hk e
 refine ⟨fun p hp => List.mem_append_left _ (h.all p hp),?_,?_⟩
 ·
  rw [List.nodup_append]
  refine ⟨h.nod,by simp,?_⟩
  intro a ha b hb e
  rw [List.mem_singleton.1 hb] at e
  exact hc (e ▸ ha)
 ·
  rw [List.map_append,← h.cnt]
  have : Bl.cnt c (ps.take i) = 0 := cnt_zero fun p hp e => hc (e ▸ h.all p hp)
  simp [this]
theorem Nm.hit (h : Nm ps i ns ks) (hi : i < ps.length) (k : Nat) (hk : k < ns.length) (e : ns[k] = ps[i].ser) : Nm ps (i + 1) ns (ks.set k ((Bl.cnt ps[i].ser (ps.take i) : Int) + 1)) := by
 refine ⟨fun p hp => ?_,h.nod,?_⟩
 ·
  rw [List.take_succ_eq_append_getElem hi] at hp
  rcases List.mem_append.1 hp with hp | hp
  · exact h.all p hp
  ·
   rw [List.mem_singleton.1 hp,← e]
   exact List.getElem_mem hk
 ·
  refine List.ext_getElem (by rw [List.length_set,h.len,List.length_map]) fun j h1 h2 => ?_
  rw [List.length_set] at h1
  rw [List.getElem_set,List.getElem_map,cnt_take _ _ _ hi]
  by_cases q : k = j
  ·
   subst q
   rw [if_pos rfl,e,if_pos rfl]
   simp
  ·
   have hj : j < ns.length := h.len ▸ h1
   rw [if_neg q,h.get j hj,if_neg,Nat.add_zero]
   intro z
   have key := List.pairwise_iff_getElem.1 h.nod
   rcases Nat.lt_or_gt_of_ne q with y | y
   · exact key k j hk hj y (by rw [e,z])
   · exact key j k hj hk y (by rw [e,z])
theorem grown_row {s : St} {c : Cl} {w : World} {rs2 : List Pd.T} (he : Each w rs2 (apply s c).1.post) (P : Nat) (hP : P = s.post.length) (hr : P < rs2.length) (hl : (apply s c).1.post.length = s.post.length + 1) : (apply s c).2.why = 0 ∧ (apply s c).2.num = rs2[P].num ∧ (apply s c).2.gross = rs2[P].gross ∧ rs2[P].ser = c.cmd.ser := by
 subst hP
 have hg := grown (s := s) (c := c) (by omega)
 have h1 := hg.last (by omega)
 have h2 := he.each _ hr
 exact ⟨hg.why,by rw [h2.num]; exact h1.1,by rw [h2.gross]; exact h1.2.1,by rw [h2.ser]; exact h1.2.2⟩
end Bl
def V1.iv (x : Int) : Value := .int .i64 x
structure GpS (w wr : World) (g : Nat) (h : Bl.Sv) (rs : List Pd.T) (B : Nat) (va : Option Addr) (vc : Nat) (la : Option Addr) (lc q : Nat) (ns : List ByteArray) (ks : List Int) : Prop where
 bel : Below w.heap.size w wr
 box : Bl.At wr g h
 post : Pd.Ls wr h.post.ao h.post.n h.post.cap rs
 inp : InP (fun b => b < B) h.post.ao h.post.n
 no : wr.ownsRow B 9 1 (.slice va q vc) q (ns.map Value.string)
 lo : wr.ownsRow B 3 1 (.slice la q lc) q (ks.map V1.iv)
 ne : ∀ k,(Value.slice va q vc).ownBlock = some k → (Value.slice la q lc).ownBlock ≠ some k
 gB : g < B
 wB : w.heap.size ≤ B
 Bw : B ≤ wr.heap.size
section
variable {w wr u : World} {g : Nat} {h : Bl.Sv} {rs : List Pd.T} {B : Nat} {va : Option Addr} {vc : Nat} {la : Option Addr} {lc q : Nat} {ns : List ByteArray} {ks : List Int}
theorem GpS.qn (b : GpS w wr g h rs B va vc la lc q ns ks) : q = ns.length := by
 have := b.no.1
 rw [List.length_map] at this
 omega
theorem GpS.qk (b : GpS w wr g h rs B va vc la lc q ns ks) : q = ks.length := by
 have := b.lo.1
 rw [List.length_map] at this
 omega
theorem GpS.below (b : GpS w wr g h rs B va vc la lc q ns ks) (k : Below wr.heap.size wr u) : GpS w u g h rs B va vc la lc q ns ks :=
 ⟨bchain b.bel k,b.box.below k,b.post.below k,b.inp,V1.below b.no k,V1.below b.lo k,b.ne,b.gB,b.wB,Nat.le_trans b.Bw k.size⟩
theorem GpS.lo1 (b : GpS w wr g h rs B va vc la lc q ns ks) {x : ByteArray} {w1 : World} (g1 : (wr.alloc (.cells #[.string x] 9)).grownBy w1 (Value.slice va q vc).ownBlock) : w1.ownsRow B 3 1 (.slice la q lc) q (ks.map V1.iv) ∧ B ≤ w1.heap.size := by
 refine ⟨V1.grown (World.ownsRow.alloc b.lo _) g1 fun k e z => b.ne k z e,?_⟩
 have h1 := g1.size
 have h2 := b.Bw
 rw [show (wr.alloc (.cells #[.string x] 9)).heap.size = wr.heap.size + 1 by simp] at h1
 omega
theorem GpS.more (b : GpS w wr g h rs B va vc la lc q ns ks) {x : ByteArray} {w1 w2 : World} {v1 v2 : Value} (o1 : w1.ownsRow B 9 1 v1 (q + 1) (ns.map Value.string ++ [.string x])) (g1 : (wr.alloc (.cells #[.string x] 9)).grownBy w1 (Value.slice va q vc).ownBlock) (a1 : v1.ownBlock = (Value.slice va q vc).ownBlock ∨ v1.ownBlock = some (wr.heap.size + 1))
  (o2 : w2.ownsRow B 3 1 v2 (q + 1) (ks.map V1.iv ++ [.int .i64 0])) (g2 : (w1.alloc (.cells #[.int .i64 0] 3)).grownBy w2 (Value.slice la q lc).ownBlock) (a2 : v2.ownBlock = (Value.slice la q lc).ownBlock ∨ v2.ownBlock = some (w1.heap.size + 1)) :
  ∃ va' vc' la' lc',v1 = .slice va' (q + 1) vc' ∧ v2 = .slice la' (q + 1) lc' ∧ GpS w w2 g h rs B va' vc' la' lc' (q + 1) (ns ++ [x]) (ks ++ [0]) := by
 obtain ⟨va',vc',rfl,_,_⟩ := V1.slice o1
 obtain ⟨la',lc',rfl,_,_⟩ := V1.slice o2
 have n1 := World.ownsRow.lt b.no
 have n2 := World.ownsRow.lt b.lo
 have hX1 : (wr.alloc (.cells #[.string x] 9)).heap.size = wr.heap.size + 1 := by simp
 have hs1 := g1.size
 rw [hX1] at hs1
 have hX2 : (w1.alloc (.cells #[.int .i64 0] 3)).heap.size = w1.heap.size + 1 := by simp
 have hs2 := g2.size
 rw [hX2] at hs2
 have hgB := b.gB
 have hwB := b.wB
 have hBw := b.Bw
 have B1 : Below w.heap.size w w1 := ((b.bel.alloc b.bel.size _)).grown g1 (by have := b.bel.size; rw [hX1]; omega) (fun k e => by have := (n1 k e).1; omega)
 have B2 : Below w.heap.size w w2 := (B1.alloc B1.size _).grown g2 (by have := B1.size; rw [hX2]; omega) (fun k e => by have := (n2 k e).1; omega)
 have k1 : KpP (fun y => y < B) wr w1 := (KpP.of ((Below.refl _ _).alloc (Nat.le_refl _) _)).trans (kpP_grown g1 fun y hy e => by have := (n1 y e).1; omega)
 have k2 : KpP (fun y => y < B) w1 w2 := (KpP.of ((Below.refl _ _).alloc (Nat.le_refl _) _)).trans (kpP_grown g2 fun y hy e => by have := (n2 y e).1; omega)
 have c1 : Bl.At w1 g h := (g1.block g (by have := b.box.lt; omega) (fun e => by have := (n1 g e.symm).1; omega)).trans (heap_old b.box)
 have c2 : Bl.At w2 g h := (g2.block g (by have := c1.lt; omega) (fun e => by have := (n2 g e.symm).1; omega)).trans (heap_old c1)
 refine ⟨va',vc',la',lc',rfl,rfl,B2,c2,(b.post.kpP b.inp k1).kpP b.inp k2,b.inp,?_,?_,?_,hgB,hwB,by omega⟩
 ·
  rw [List.map_append]
  refine V1.grown (World.ownsRow.alloc o1 _) g2 fun k e z => ?_
  have hk := (n2 k z).2
  rcases a1 with y | y
  ·
   rw [y] at e
   exact b.ne k e z
  ·
   rw [y] at e
   cases e
   omega
 ·
  rw [List.map_append]
  exact o2
 ·
  intro k e z
  rcases a2 with y2 | y2
  ·
   rw [y2] at z
   have hk := (n2 k z).2
   rcases a1 with y | y
   ·
    rw [y] at e
    exact b.ne k e z
   ·
    rw [y] at e
    cases e
    omega
  ·
   rw [y2] at z
   have := (World.ownsRow.lt o1 k e).2
   cases z
   omega
theorem GpS.bump {lg : Nat} (b : GpS w wr g h rs B va vc (some ⟨lg,0,none⟩) lc q ns ks) (k : Nat) (hk : k < q) (x : Int) : GpS w (wr.setCell ⟨lg,k,none⟩ (.int .i64 x)) g h rs B va vc (some ⟨lg,0,none⟩) lc q ns (ks.set k x) := by
 have hl := World.ownsRow.lt b.lo lg rfl
 have hgB := b.gB
 have hwB := b.wB
 refine ⟨bset b.bel (by omega) _ _,b.box.away (by omega) _ _,b.post.kpP b.inp (KpP.set _ (by omega) _ _),b.inp,?_,?_,b.ne,hgB,hwB,by rw [show (wr.setCell ⟨lg,k,none⟩ (.int .i64 x)).heap.size = wr.heap.size by simp]; exact b.Bw⟩
 · exact V1.far b.no (fun y e z => b.ne y e (by rw [z]; rfl)) _ _
 ·
  rw [List.map_set]
  exact V1.put b.lo k hk _
end
end Go.Proofs.YtjpfpojbalepeaaGreat
