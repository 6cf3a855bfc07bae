/- MEMORY THAT STAYS BUT FOR ONE BLOCK, AND LISTS THAT LIE ELSEWHERE. (By genfr.py.) -/
import Derived.Test.YtjpfpojbalepeabGreatZB24
set_option linter.unusedVariables false
namespace Go.Proofs.YtjpfpojbalepeabGreat
open Go.RowKit
open Mem
structure KpX (A : Nat) (w v : World) : Prop where
 cell : ∀ b o,b ≠ A → b < w.heap.size → v.cell? ⟨b,o,none⟩ = w.cell? ⟨b,o,none⟩
 size : w.heap.size ≤ v.heap.size
theorem KpX.of {A : Nat} {w v : World} (h : Below w.heap.size w v) : KpX A w v := ⟨fun b o _ hb => (bcell h).1 b o hb,h.size⟩
theorem KpX.refl (A : Nat) (w : World) : KpX A w w := ⟨fun _ _ _ _ => rfl,Nat.le_refl _⟩
theorem KpX.trans {A : Nat} {u v w : World} (h : KpX A u v) (k : KpX A v w) : KpX A u w := ⟨fun b o ha hb => (k.cell b o ha (Nat.lt_of_lt_of_le hb h.size)).trans (h.cell b o ha hb),Nat.le_trans h.size k.size⟩
def InX (A : Nat) (ao : Option Addr) (n : Nat) : Prop := 0 < n → ∀ b off,ao = some ⟨b,off,none⟩ → b ≠ A
theorem inX_nil (A : Nat) (ao : Option Addr) : InX A ao 0 := fun h => absurd h (Nat.lt_irrefl _)
theorem Sr.Ls.kpx {A : Nat} {w v : World} {ao : Option Addr} {n cap : Nat} {rs : List Sr.T} (h : Sr.Ls w ao n cap rs) (hi : InX A ao n) (k : KpX A w v) : Sr.Ls v ao n cap rs := by
 refine ⟨h.len,h.fits,h.reach,h.nil,?_,h.short⟩
 rcases h.seg with e | ⟨b,off,e,hc⟩
 · exact .inl e
 ·
  refine .inr ⟨b,off,e,fun i hr => ?_⟩
  have hA := hi (by rw [h.len]; omega) b off e
  have hl := cell_lt (hc i hr).c0
  exact ⟨(k.cell b _ hA hl).trans (hc i hr).c0,(k.cell b _ hA hl).trans (hc i hr).c1,(k.cell b _ hA hl).trans (hc i hr).c2,(k.cell b _ hA hl).trans (hc i hr).c3⟩
theorem Ba.Ls.kpx {A : Nat} {w v : World} {ao : Option Addr} {n cap : Nat} {rs : List Ba.T} (h : Ba.Ls w ao n cap rs) (hi : InX A ao n) (k : KpX A w v) : Ba.Ls v ao n cap rs := by
 refine ⟨h.len,h.fits,h.reach,h.nil,?_,h.short⟩
 rcases h.seg with e | ⟨b,off,e,hc⟩
 · exact .inl e
 ·
  refine .inr ⟨b,off,e,fun i hr => ?_⟩
  have hA := hi (by rw [h.len]; omega) b off e
  have hl := cell_lt (hc i hr).c0
  exact ⟨(k.cell b _ hA hl).trans (hc i hr).c0,(k.cell b _ hA hl).trans (hc i hr).c1⟩
theorem Sn.Ls.kpx {A : Nat} {w v : World} {ao : Option Addr} {n cap : Nat} {rs : List Sn.T} (h : Sn.Ls w ao n cap rs) (hi : InX A ao n) (k : KpX A w v) : Sn.Ls v ao n cap rs := by
 refine ⟨h.len,h.fits,h.reach,h.nil,?_,h.short⟩
 rcases h.seg with e | ⟨b,off,e,hc⟩
 · exact .inl e
 ·
  refine .inr ⟨b,off,e,fun i hr => ?_⟩
  have hA := hi (by rw [h.len]; omega) b off e
  have hl := cell_lt (hc i hr).c0
  exact ⟨(k.cell b _ hA hl).trans (hc i hr).c0,(k.cell b _ hA hl).trans (hc i hr).c1,(k.cell b _ hA hl).trans (hc i hr).c2,(k.cell b _ hA hl).trans (hc i hr).c3,(k.cell b _ hA hl).trans (hc i hr).c4⟩
theorem Pt.Ls.kpx {A : Nat} {w v : World} {ao : Option Addr} {n cap : Nat} {rs : List Pt.T} (h : Pt.Ls w ao n cap rs) (hi : InX A ao n) (k : KpX A w v) : Pt.Ls v ao n cap rs := by
 refine ⟨h.len,h.fits,h.reach,h.nil,?_,h.short⟩
 rcases h.seg with e | ⟨b,off,e,hc⟩
 · exact .inl e
 ·
  refine .inr ⟨b,off,e,fun i hr => ?_⟩
  have hA := hi (by rw [h.len]; omega) b off e
  have hl := cell_lt (hc i hr).c0
  exact ⟨(k.cell b _ hA hl).trans (hc i hr).c0,(k.cell b _ hA hl).trans (hc i hr).c1,(k.cell b _ hA hl).trans (hc i hr).c2,(k.cell b _ hA hl).trans (hc i hr).c3⟩
theorem Pd.Ls.kpx {A : Nat} {w v : World} {ao : Option Addr} {n cap : Nat} {rs : List Pd.T} (h : Pd.Ls w ao n cap rs) (hi : InX A ao n) (k : KpX A w v) : Pd.Ls v ao n cap rs := by
 refine ⟨h.len,h.fits,h.reach,h.nil,?_,h.short⟩
 rcases h.seg with e | ⟨b,off,e,hc⟩
 · exact .inl e
 ·
  refine .inr ⟨b,off,e,fun i hr => ?_⟩
  have hA := hi (by rw [h.len]; omega) b off e
  have hl := cell_lt (hc i hr).c0
  exact ⟨(k.cell b _ hA hl).trans (hc i hr).c0,(k.cell b _ hA hl).trans (hc i hr).c1,(k.cell b _ hA hl).trans (hc i hr).c2,(k.cell b _ hA hl).trans (hc i hr).c3,(k.cell b _ hA hl).trans (hc i hr).c4,(k.cell b _ hA hl).trans (hc i hr).c5,(k.cell b _ hA hl).trans (hc i hr).c6,(k.cell b _ hA hl).trans (hc i hr).c7,(k.cell b _ hA hl).trans (hc i hr).c8,(k.cell b _ hA hl).trans (hc i hr).c9,(k.cell b _ hA hl).trans (hc i hr).c10,(k.cell b _ hA hl).trans (hc i hr).c11⟩
theorem Ca.Ls.kpx {A : Nat} {w v : World} {ao : Option Addr} {n cap : Nat} {rs : List Ca.T} (h : Ca.Ls w ao n cap rs) (hi : InX A ao n) (k : KpX A w v) : Ca.Ls v ao n cap rs := by
 refine ⟨h.len,h.fits,h.reach,h.nil,?_,h.short⟩
 rcases h.seg with e | ⟨b,off,e,hc⟩
 · exact .inl e
 ·
  refine .inr ⟨b,off,e,fun i hr => ?_⟩
  have hA := hi (by rw [h.len]; omega) b off e
  have hl := cell_lt (hc i hr).c0
  exact ⟨(k.cell b _ hA hl).trans (hc i hr).c0,(k.cell b _ hA hl).trans (hc i hr).c1,(k.cell b _ hA hl).trans (hc i hr).c2,(k.cell b _ hA hl).trans (hc i hr).c3,(k.cell b _ hA hl).trans (hc i hr).c4,(k.cell b _ hA hl).trans (hc i hr).c5,(k.cell b _ hA hl).trans (hc i hr).c6,(k.cell b _ hA hl).trans (hc i hr).c7,(k.cell b _ hA hl).trans (hc i hr).c8,(k.cell b _ hA hl).trans (hc i hr).c9,(k.cell b _ hA hl).trans (hc i hr).c10,(k.cell b _ hA hl).trans (hc i hr).c11,(k.cell b _ hA hl).trans (hc i hr).c12,(k.cell b _ hA hl).trans (hc i hr).c13,(k.cell b _ hA hl).trans (hc i hr).c14,(k.cell b _ hA hl).trans (hc i hr).c15,(k.cell b _ hA hl).trans (hc i hr).c16⟩
theorem Rp.Ls.kpx {A : Nat} {w v : World} {ao : Option Addr} {n cap : Nat} {rs : List Rp.T} (h : Rp.Ls w ao n cap rs) (hi : InX A ao n) (k : KpX A w v) : Rp.Ls v ao n cap rs := by
 refine ⟨h.len,h.fits,h.reach,h.nil,?_,h.short⟩
 rcases h.seg with e | ⟨b,off,e,hc⟩
 · exact .inl e
 ·
  refine .inr ⟨b,off,e,fun i hr => ?_⟩
  have hA := hi (by rw [h.len]; omega) b off e
  have hl := cell_lt (hc i hr).c0
  exact ⟨(k.cell b _ hA hl).trans (hc i hr).c0,(k.cell b _ hA hl).trans (hc i hr).c1,(k.cell b _ hA hl).trans (hc i hr).c2⟩
theorem Rts.kpx {A : Nat} {w v : World} {ao : Option Addr} {n cap : Nat} {rs : List Vt.Rt} (h : Rts w ao n cap rs) (hi : InX A ao n) (k : KpX A w v) : Rts v ao n cap rs := by
 refine ⟨h.len,h.fits,h.reach,h.nil,?_,h.short⟩
 rcases h.seg with e | ⟨b,off,e,hc⟩
 · exact .inl e
 ·
  refine .inr ⟨b,off,e,fun i hr => ?_⟩
  have hA := hi (by rw [h.len]; omega) b off e
  have hl := cell_lt (hc i hr).c0
  exact ⟨(k.cell b _ hA hl).trans (hc i hr).c0,(k.cell b _ hA hl).trans (hc i hr).c1,(k.cell b _ hA hl).trans (hc i hr).c2,(k.cell b _ hA hl).trans (hc i hr).c3,(k.cell b _ hA hl).trans (hc i hr).c4⟩
namespace Bl
structure LiesX (A : Nat) (w : World) (h : Sv) (s : St) : Prop where
 tab : Rts w h.tab.ao h.tab.n h.tab.cap s.tab
 ser : Sr.Ls w h.ser.ao h.ser.n h.ser.cap s.ser
 post : ∃ rs,Pd.Ls w h.post.ao h.post.n h.post.cap rs ∧ Each w rs s.post ∧ ∀ r ∈ rs,InX A r.parts.ao r.parts.n
 book : Ba.Ls w h.book.ao h.book.n h.book.cap s.book
 sess : Sn.Ls w h.sess.ao h.sess.n h.sess.cap s.sess
 next : h.next = s.next
 fit : Fit s.next
 atab : InX A h.tab.ao h.tab.n
 aser : InX A h.ser.ao h.ser.n
 apost : InX A h.post.ao h.post.n
 abook : InX A h.book.ao h.book.n
 asess : InX A h.sess.ao h.sess.n
theorem LiesX.lies {A : Nat} {w : World} {h : Sv} {s : St} (l : LiesX A w h s) : Lies w h s := by
 obtain ⟨rs,h1,h2,_⟩ := l.post
 exact ⟨l.tab,l.ser,⟨rs,h1,h2⟩,l.book,l.sess,l.next,l.fit⟩
theorem IsP.kpx {A : Nat} {w v : World} {r : Pd.T} {p : Ps} (h : IsP w r p) (hi : InX A r.parts.ao r.parts.n) (k : KpX A w v) : IsP v r p :=
 ⟨h.ser,h.num,h.y,h.m,h.d,h.net,h.tax,h.gross,h.parts.kpx hi k,h.ofS,h.ofN,h.back⟩
theorem LiesX.kpx {A : Nat} {w v : World} {h : Sv} {s : St} (l : LiesX A w h s) (k : KpX A w v) : LiesX A v h s := by
 obtain ⟨rs,h1,h2,h3⟩ := l.post
 exact ⟨l.tab.kpx l.atab k,l.ser.kpx l.aser k,⟨rs,h1.kpx l.apost k,⟨h2.len,fun i hi => (h2.each i hi).kpx (h3 _ (List.getElem_mem hi)) k⟩,h3⟩,l.book.kpx l.abook k,l.sess.kpx l.asess k,l.next,l.fit,l.atab,l.aser,l.apost,l.abook,l.asess⟩
theorem LiesX.below {A : Nat} {w v : World} {h : Sv} {s : St} (l : LiesX A w h s) (k : Below w.heap.size w v) : LiesX A v h s := l.kpx (KpX.of k)
end Bl
theorem KpX.set {A : Nat} (w : World) (o : Nat) (x : Value) : KpX A w (w.setCell ⟨A,o,none⟩ x) :=
 ⟨fun b o' ha _ => World.cell?_setCell_other _ _ _ _ (by intro k; simp only [Addr.mk.injEq] at k; exact ha k.1.symm),by simp⟩
theorem InA.other {A g : Nat} {ao : Option Addr} {n : Nat} (h : InA A ao n) (hg : g < A) : InX g ao n := fun hn b off e => by have := h hn b off e; omega
theorem Bl.LiesA.other {A g : Nat} {w : World} {h : Bl.Sv} {s : Bl.St} (l : Bl.LiesA A w h s) (hg : g < A) : Bl.LiesX g w h s := by
 obtain ⟨rs,h1,h2,h3⟩ := l.post
 exact ⟨l.tab,l.ser,⟨rs,h1,h2,fun r hr => (h3 r hr).other hg⟩,l.book,l.sess,l.next,l.fit,l.atab.other hg,l.aser.other hg,l.apost.other hg,l.abook.other hg,l.asess.other hg⟩
theorem Sr.Ls.old {w : World} {ao : Option Addr} {n cap : Nat} {rs : List Sr.T} (h : Sr.Ls w ao n cap rs) : InX w.heap.size ao n := by
 intro hn b off e
 rcases h.seg with e2 | ⟨b2,off2,e2,hc⟩
 ·
  have := h.len
  rw [e2] at this
  simp at this
  omega
 ·
  rw [e] at e2
  cases e2
  have hl := cell_lt (hc 0 (by have := h.len; omega)).c0
  omega
theorem Ba.Ls.old {w : World} {ao : Option Addr} {n cap : Nat} {rs : List Ba.T} (h : Ba.Ls w ao n cap rs) : InX w.heap.size ao n := by
 intro hn b off e
 rcases h.seg with e2 | ⟨b2,off2,e2,hc⟩
 ·
  have := h.len
  rw [e2] at this
  simp at this
  omega
 ·
  rw [e] at e2
  cases e2
  have hl := cell_lt (hc 0 (by have := h.len; omega)).c0
  omega
theorem Sn.Ls.old {w : World} {ao : Option Addr} {n cap : Nat} {rs : List Sn.T} (h : Sn.Ls w ao n cap rs) : InX w.heap.size ao n := by
 intro hn b off e
 rcases h.seg with e2 | ⟨b2,off2,e2,hc⟩
 ·
  have := h.len
  rw [e2] at this
  simp at this
  omega
 ·
  rw [e] at e2
  cases e2
  have hl := cell_lt (hc 0 (by have := h.len; omega)).c0
  omega
theorem Pt.Ls.old {w : World} {ao : Option Addr} {n cap : Nat} {rs : List Pt.T} (h : Pt.Ls w ao n cap rs) : InX w.heap.size ao n := by
 intro hn b off e
 rcases h.seg with e2 | ⟨b2,off2,e2,hc⟩
 ·
  have := h.len
  rw [e2] at this
  simp at this
  omega
 ·
  rw [e] at e2
  cases e2
  have hl := cell_lt (hc 0 (by have := h.len; omega)).c0
  omega
theorem Pd.Ls.old {w : World} {ao : Option Addr} {n cap : Nat} {rs : List Pd.T} (h : Pd.Ls w ao n cap rs) : InX w.heap.size ao n := by
 intro hn b off e
 rcases h.seg with e2 | ⟨b2,off2,e2,hc⟩
 ·
  have := h.len
  rw [e2] at this
  simp at this
  omega
 ·
  rw [e] at e2
  cases e2
  have hl := cell_lt (hc 0 (by have := h.len; omega)).c0
  omega
theorem Ca.Ls.old {w : World} {ao : Option Addr} {n cap : Nat} {rs : List Ca.T} (h : Ca.Ls w ao n cap rs) : InX w.heap.size ao n := by
 intro hn b off e
 rcases h.seg with e2 | ⟨b2,off2,e2,hc⟩
 ·
  have := h.len
  rw [e2] at this
  simp at this
  omega
 ·
  rw [e] at e2
  cases e2
  have hl := cell_lt (hc 0 (by have := h.len; omega)).c0
  omega
theorem Rp.Ls.old {w : World} {ao : Option Addr} {n cap : Nat} {rs : List Rp.T} (h : Rp.Ls w ao n cap rs) : InX w.heap.size ao n := by
 intro hn b off e
 rcases h.seg with e2 | ⟨b2,off2,e2,hc⟩
 ·
  have := h.len
  rw [e2] at this
  simp at this
  omega
 ·
  rw [e] at e2
  cases e2
  have hl := cell_lt (hc 0 (by have := h.len; omega)).c0
  omega
theorem Rts.old {w : World} {ao : Option Addr} {n cap : Nat} {rs : List Vt.Rt} (h : Rts w ao n cap rs) : InX w.heap.size ao n := by
 intro hn b off e
 rcases h.seg with e2 | ⟨b2,off2,e2,hc⟩
 ·
  have := h.len
  rw [e2] at this
  simp at this
  omega
 ·
  rw [e] at e2
  cases e2
  have hl := cell_lt (hc 0 (by have := h.len; omega)).c0
  omega
theorem Bl.Lies.old {w : World} {h : Bl.Sv} {s : Bl.St} (l : Bl.Lies w h s) : Bl.LiesX w.heap.size w h s := by
 obtain ⟨rs,h1,h2⟩ := l.post
 refine ⟨l.tab,l.ser,⟨rs,h1,h2,fun r hr => ?_⟩,l.book,l.sess,l.next,l.fit,l.tab.old,l.ser.old,h1.old,l.book.old,l.sess.old⟩
 obtain ⟨i,hi,rfl⟩ := List.getElem_of_mem hr
 exact (h2.each i hi).parts.old
end Go.Proofs.YtjpfpojbalepeabGreat
