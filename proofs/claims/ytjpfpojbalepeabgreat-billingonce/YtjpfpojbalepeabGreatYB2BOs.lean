/- A STATE'S VARIABLE, A LIST OF CALLS, AND A LIST THAT GROWS, in a loop over the calls. -/
import Derived.Test.YtjpfpojbalepeabGreatZB214
import Derived.Test.YtjpfpojbalepeabGreatZB25
import Derived.Test.YtjpfpojbalepeabGreatZB213
set_option maxRecDepth 100000
set_option linter.unusedVariables false
namespace Go.Proofs.YtjpfpojbalepeabGreat
open Go.RowKit
open Mem
theorem fixA {A g : Nat} {u : World} {h : Bl.Sv} {s : Bl.St} (_hL : Bl.LiesA A u h s) (hl : g < A) : g < A := hl
theorem Ca.own_slice {w : World} {B : Nat} {v : Value} {M : List Ca.T} (h : Ca.Own w B v M) : ∃ ao n cap,v = .slice ao n cap := by
 rcases h.2 with ⟨h',_⟩ | ⟨g',cap',cur,h',_⟩
 · exact ⟨_,_,_,h'⟩
 · exact ⟨_,_,_,h'⟩
theorem Ca.own_lay {u : World} {B g : Nat} {v : Value} {M : List Ca.T} (h : Ca.Own u B v M) (hg : g < B) (x : Bl.Sv) : Ca.Own (Bl.lay u g x) B v M := by
 obtain ⟨h1,h2⟩ := h
 refine ⟨h1,?_⟩
 rcases h2 with h2 | ⟨b,cap,cur,h',hb,hq,h3⟩
 · exact .inl h2
 · exact .inr ⟨b,cap,cur,h',hb,(setRow_other u g b _ (by omega)).trans hq,h3⟩
theorem KpP.grown {P : Nat → Prop} {u v : World} {row : Option Nat} (gr : u.grownBy v row) (hP : ∀ b,P b → row ≠ some b) : KpP P u v :=
 ⟨fun b o hb hl => World.cell?_of_block (gr.block b hl (fun k => hP b hb k.symm)),gr.size⟩
theorem Ca.Ls.inp {w : World} {ao : Option Addr} {n cap : Nat} {rs : List Ca.T} (h : Ca.Ls w ao n cap rs) : InP (· < w.heap.size) ao n := fun hn b off e => by
 rcases h.seg with z | ⟨b',off',e',hc⟩
 ·
  rw [h.len,z] at hn
  exact absurd hn (Nat.lt_irrefl _)
 ·
  rw [e'] at e
  cases e
  exact cell_lt (hc 0 (by rw [← h.len]; exact hn)).c0
namespace Bl
def KeyR (ds : List Ca.T) (cs : List Cl) : Prop := ds.map (fun r => (r.sess,r.seq)) = cs.map (fun c => (c.sess,c.seq))
theorem keyR_len {ds : List Ca.T} {cs : List Cl} (h : KeyR ds cs) : ds.length = cs.length := by
 have := congrArg List.length h
 rw [List.length_map,List.length_map] at this
 exact this
theorem keyR_add {ds : List Ca.T} {cs : List Cl} (h : KeyR ds cs) {r : Ca.T} {c : Cl} (h1 : r.sess = c.sess) (h2 : r.seq = c.seq) : KeyR (ds ++ [r]) (cs ++ [c]) := by
 unfold KeyR at *
 rw [List.map_append,List.map_append,h]
 simp only [List.map_cons,List.map_nil,h1,h2]
theorem keyR_ne {ds : List Ca.T} {cs : List Cl} (h : KeyR ds cs) {c : Cl} (hn : ∀ d ∈ cs,¬ (d.sess = c.sess ∧ d.seq = c.seq)) (m : Nat) (hm : m < ds.length) : ¬ (ds[m].sess = c.sess ∧ ds[m].seq = c.seq) := by
 have hl := keyR_len h
 have e : (ds.map (fun r => (r.sess,r.seq)))[m]'(by rw [List.length_map]; exact hm) = (cs.map (fun c => (c.sess,c.seq)))[m]'(by rw [List.length_map,← hl]; exact hm) := by
  unfold KeyR at h
  simp only [h]
 rw [List.getElem_map,List.getElem_map,Prod.mk.injEq] at e
 rw [e.1,e.2]
 exact hn _ (List.getElem_mem _)
theorem LiesA.toLp {A : Nat} {w : World} {h : Sv} {s : St} (l : LiesA A w h s) : Lp (fun b => A ≤ b) w h s := by
 obtain ⟨rs,h1,h2,h3⟩ := l.post
 exact ⟨l.tab,l.ser,⟨rs,h1,h2,h3⟩,l.book,l.sess,l.next,l.fit,l.atab,l.aser,l.apost,l.abook,l.asess⟩
end Bl
structure OnS (w wr : World) (g : Nat) (h : Bl.Sv) (s : Bl.St) (ao : Option Addr) (n cap : Nat) (rs : List Ca.T) (cs : List Bl.Cl) (B : Nat) (vo : Option Addr) (q vc : Nat) (ds : List Ca.T) : Prop where
 bel : Below w.heap.size w wr
 out : w.heap.size ≤ g
 box : Bl.At wr g h
 right : Bl.Right s
 ls : Ca.Ls wr ao n cap rs
 inl : InP (fun b => g < b ∧ b < B) ao n
 each : Bl.EachC w rs cs
 few : ∀ c ∈ cs,c.cmd.lines.length ≤ 15
 lp : Bl.Lp (fun b => b ≠ g ∧ (Value.slice vo q vc).ownBlock ≠ some b) wr h s
 own : Ca.Own wr B (.slice vo q vc) ds
 sh : ∀ r ∈ ds,Ca.Short r
 gB : g < B
 Bw : B ≤ wr.heap.size
section
variable {w wr u v : World} {g : Nat} {h h' : Bl.Sv} {s s' : Bl.St} {ao : Option Addr} {n cap : Nat} {rs : List Ca.T} {cs : List Bl.Cl} {B : Nat} {vo : Option Addr} {q vc : Nat} {ds : List Ca.T}
theorem OnS.start (b1 : Below w.heap.size w wr) (hg : w.heap.size ≤ g) (hA : Bl.At wr g h) (hL : Bl.LiesA (g + 1) wr h Bl.new) (hR : Bl.Right Bl.new) (hls : Ca.Ls wr ao n cap rs) (hin : InA (g + 1) ao n) (hE : Bl.EachC w rs cs) (hf : ∀ c ∈ cs,c.cmd.lines.length ≤ 15) : OnS w wr g h Bl.new ao n cap rs cs wr.heap.size none 0 0 [] := by
 refine ⟨b1,hg,hA,hR,hls,fun hn b off e => ⟨hin hn b off e,hls.inp hn b off e⟩,hE,hf,?_,Ca.own_nil _ _,by simp,hA.lt,Nat.le_refl _⟩
 exact (hL.toLp).mono fun b hb => ⟨by omega,by simp [Value.ownBlock]⟩
theorem OnS.qlen (b : OnS w wr g h s ao n cap rs cs B vo q vc ds) : q = ds.length := by
 rcases b.own.2 with ⟨h1,h2⟩ | ⟨g',cap',cur,h1,_⟩
 ·
  rw [h2]
  cases h1
  rfl
 ·
  simp only [Value.slice.injEq] at h1
  exact h1.2.1
theorem OnS.row (b : OnS w wr g h s ao n cap rs cs B vo q vc ds) : ∀ k,(Value.slice vo q vc).ownBlock = some k → B ≤ k ∧ k < wr.heap.size := World.ownsRow.lt b.own
theorem OnS.put (b : OnS w wr g h s ao n cap rs cs B vo q vc ds) (k : Below wr.heap.size wr u) (hl : Bl.LiesA wr.heap.size u h' s') (hr : Bl.Right s') : OnS w (Bl.lay u g h') g h' s' ao n cap rs cs B vo q vc ds := by
 have hg := b.box.lt
 have hrow := b.row
 refine ⟨Bl.below_lay (bchain b.bel k) b.out _,b.out,(b.box.below k).lay h',hr,(b.ls.below k).kpP b.inl (KpP.row u (by omega) _),b.inl,b.each,b.few,?_,Ca.own_lay (Ca.own_below b.own k) b.gB _,b.sh,b.gB,by have := k.size; have := b.Bw; show B ≤ (Bl.lay u g h').heap.size; simp [Bl.lay,World.setRow]; omega⟩
 exact ((hl.toLp).kp (KpP.row u (by omega) _)).mono fun x hx => ⟨by omega,fun e => by have := (hrow x e).2; omega⟩
theorem OnS.kept (b : OnS w wr g h s ao n cap rs cs B vo q vc ds) (gr : u.grownBy v (Value.slice vo q vc).ownBlock) {gt : Nat} {k : Bl.Sv} (hA : Bl.At u gt k) (ht : wr.heap.size ≤ gt) : Bl.At v gt k :=
 (gr.block gt hA.lt (fun e => by have := (b.row gt e.symm).2; omega)).trans hA
theorem OnS.var (b : OnS w wr g h s ao n cap rs cs B vo q vc ds) (gr : u.grownBy v (Value.slice vo q vc).ownBlock) (hA : Bl.At u g h) : Bl.At v g h :=
 (gr.block g hA.lt (fun e => by have := (b.row g e.symm).1; have := b.gB; omega)).trans hA
theorem OnS.app (b : OnS w wr g h s ao n cap rs cs B vo q vc ds) (k : Below wr.heap.size wr u) (hl : Bl.LiesA wr.heap.size u h' s') (hr : Bl.Right s') {va : Option Addr} {q5 vc5 : Nat} {r : Ca.T} (gr : u.grownBy v (Value.slice vo q vc).ownBlock)
  (hv : (Value.slice va q5 vc5).ownBlock = (Value.slice vo q vc).ownBlock ∨ (Value.slice va q5 vc5).ownBlock = some u.heap.size) (o5 : Ca.Own v B (.slice va q5 vc5) (ds ++ [r])) (hs : Ca.Short r) : OnS w (Bl.lay v g h') g h' s' ao n cap rs cs B va q5 vc5 (ds ++ [r]) := by
 have hg := b.box.lt
 have hrow := b.row
 have hgB := b.gB
 have hks := k.size
 have hgs := gr.size
 have hout := b.out
 have hb : Below w.heap.size w v := (bchain b.bel k).grown gr (by have := b.bel.size; omega) (fun x e => by have := (hrow x e).1; omega)
 refine ⟨Bl.below_lay hb b.out _,b.out,(b.var gr (b.box.below k)).lay h',hr,?_,b.inl,b.each,b.few,?_,Ca.own_lay o5 b.gB _,?_,b.gB,by have := b.Bw; show B ≤ (Bl.lay v g h').heap.size; simp [Bl.lay,World.setRow]; omega⟩
 · exact ((b.ls.below k).kpP b.inl (KpP.grown gr fun x hx e => by have := (hrow x e).1; omega)).kpP b.inl (KpP.row v (by omega) _)
 ·
  refine (((hl.toLp).lt.kp (KpP.grown gr fun x hx e => by have := (hrow x e).2; omega)).kp (KpP.row v (by omega) _)).mono fun x hx => ⟨by omega,fun e => ?_⟩
  rcases hv with z | z
  ·
   rw [z] at e
   have := (hrow x e).2
   omega
  ·
   rw [z] at e
   cases e
   omega
 ·
  intro x hx
  rcases List.mem_append.1 hx with hx | hx
  · exact b.sh x hx
  ·
   rw [List.mem_singleton.1 hx]
   exact hs
end
end Go.Proofs.YtjpfpojbalepeabGreat
