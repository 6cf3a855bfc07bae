/- THE DOCUMENT's OWN DISK IN MEMORY: a row's bytes, or its bytes and what is kept, laid anew. -/
import Derived.Test.YtegniklofhopeaaYDpDrB
import Derived.Test.YtegniklofhopeaaYDpDrC
import Derived.Test.YtegniklofhopeaaYDpByS
set_option linter.unusedVariables false
namespace Go.Proofs.Ytegniklofhopeaa.Dr
open Go.RowKit
open Mem Dk
section
variable {P : Nat → Prop} {w u y : World} {p : Nat} {d : D} {v : Sl} {rs : List Rq.T} {s : ByteArray}
theorem put_at {f : F} {l : List F} (h : has f.name l = true) : put f l = l.set (Dk.spot f.name l) f := if_pos h
theorem At.own (h : At P w p d v rs) {g : Nat} (hg : v.ao = some ⟨g,0,none⟩) : Rq.Own w 0 (.slice (some ⟨g,0,none⟩) v.n v.cap) rs := by
 have := h.rows
 unfold sl at this
 rw [hg] at this
 exact this
theorem own_block {v : Sl} {g : Nat} (hg : v.ao = some ⟨g,0,none⟩) : (sl v).ownBlock = some g := by
 unfold sl
 rw [hg]
 rfl
theorem At.two (h : At P w p d v rs) (hh : has s d.fs = true) {g : Nat} (hg : v.ao = some ⟨g,0,none⟩) (b : Below w.heap.size w y) {x : Sl} {bs : List UInt8} {kp : Nat} (o : By.Own y 0 (sl x) bs) (hb : ∀ c,(sl x).ownBlock = some c → nw P w c ∧ c ≠ p ∧ c ≠ g) (ok : Ok ⟨put ⟨s,bs,kp⟩ d.fs,d.off,d.left⟩) :
  Dsk (nw P w) ((y.setCell ⟨g,Dk.spot s d.fs * 3 + 1,none⟩ (.slice x.ao x.n x.cap)).setCell ⟨g,Dk.spot s d.fs * 3 + 2,none⟩ (.int .i64 (kp : Int))) p ⟨put ⟨s,bs,kp⟩ d.fs,d.off,d.left⟩ ∧ UpdQ P w ((y.setCell ⟨g,Dk.spot s d.fs * 3 + 1,none⟩ (.slice x.ao x.n x.cap)).setCell ⟨g,Dk.spot s d.fs * 3 + 2,none⟩ (.int .i64 (kp : Int))) := by
 obtain ⟨hk,one,_⟩ := h.spot hh
 have ho := (h.below b).own hg
 have hgb := own_block hg
 have hgP := (h.pv g hgb)
 have q : UpdQ (fun c => (sl v).ownBlock = some c) y ((y.setCell ⟨g,Dk.spot s d.fs * 3 + 1,none⟩ (.slice x.ao x.n x.cap)).setCell ⟨g,Dk.spot s d.fs * 3 + 2,none⟩ (.int .i64 (kp : Int))) := (UpdQ.set (Q := fun c => (sl v).ownBlock = some c) y hgb _ _).trans (UpdQ.set (Q := fun c => (sl v).ownBlock = some c) _ hgb _ _)
 have h1 := Rq.own_put ho (Dk.spot s d.fs) 1 hk (by omega) (.slice x.ao x.n x.cap) ⟨rs[Dk.spot s d.fs].name,x,rs[Dk.spot s d.fs].kept⟩ rfl
 have h2 := Rq.own_put h1 (Dk.spot s d.fs) 2 (by rw [List.length_set]; exact hk) (by omega) (.int .i64 (kp : Int)) ⟨rs[Dk.spot s d.fs].name,x,(kp : Int)⟩ (by rw [List.getElem_set_self]; rfl)
 rw [List.set_set] at h2
 have e : put ⟨s,bs,kp⟩ d.fs = d.fs.set (Dk.spot s d.fs) ⟨s,bs,kp⟩ := put_at hh
 rw [e] at ok ⊢
 have hn : rs[Dk.spot s d.fs].name = s := by
  rw [one.name]
  exact own_name h.ok.sorted
 refine ⟨⟨v,_,h.turn (u := (y.setCell ⟨g,Dk.spot s d.fs * 3 + 1,none⟩ (.slice x.ao x.n x.cap)).setCell ⟨g,Dk.spot s d.fs * 3 + 2,none⟩ (.int .i64 (kp : Int))) hk (r' := ⟨rs[Dk.spot s d.fs].name,x,(kp : Int)⟩) ?_ ⟨hn,rfl,q.rows o fun c ec z => (hb c ec).2.2 (Option.some.inj (z.symm.trans hgb))⟩ ((UpdQ.of b).trans q) (fun c ec => ?_) ok⟩,((UpdQ.of b).trans q).mono fun c z => (h.pv c z).1⟩
 ·
  unfold sl
  rw [hg]
  exact h2
 ·
  obtain ⟨a1,a2,a3⟩ := hb c ec
  exact ⟨a1,a2,fun z => a3 (Option.some.inj (z.symm.trans hgb))⟩
theorem At.data (h : At P w p d v rs) (hh : has s d.fs = true) {g : Nat} (hg : v.ao = some ⟨g,0,none⟩) (b : Below w.heap.size w y) {x : Sl} {bs : List UInt8} (o : By.Own y w.heap.size (sl x) bs) (ok : Ok ⟨put ⟨s,bs,(Dk.own s d.fs).kept⟩ d.fs,d.off,d.left⟩) :
  Dsk (nw P w) (y.setCell ⟨g,Dk.spot s d.fs * 3 + 1,none⟩ (.slice x.ao x.n x.cap)) p ⟨put ⟨s,bs,(Dk.own s d.fs).kept⟩ d.fs,d.off,d.left⟩ ∧ UpdQ P w (y.setCell ⟨g,Dk.spot s d.fs * 3 + 1,none⟩ (.slice x.ao x.n x.cap)) := by
 obtain ⟨hk,one,_⟩ := h.spot hh
 have ho := (h.below b).own hg
 have hgb := own_block hg
 have hgl := (World.ownsRow.lt h.rows g hgb).2
 have hb : ∀ c,(sl x).ownBlock = some c → w.heap.size ≤ c := By.own_ge o
 have q : UpdQ (fun c => (sl v).ownBlock = some c) y (y.setCell ⟨g,Dk.spot s d.fs * 3 + 1,none⟩ (.slice x.ao x.n x.cap)) := UpdQ.set (Q := fun c => (sl v).ownBlock = some c) y hgb _ _
 have h1 := Rq.own_put ho (Dk.spot s d.fs) 1 hk (by omega) (.slice x.ao x.n x.cap) ⟨rs[Dk.spot s d.fs].name,x,rs[Dk.spot s d.fs].kept⟩ rfl
 have e : put ⟨s,bs,(Dk.own s d.fs).kept⟩ d.fs = d.fs.set (Dk.spot s d.fs) ⟨s,bs,(Dk.own s d.fs).kept⟩ := put_at hh
 rw [e] at ok ⊢
 have hn : rs[Dk.spot s d.fs].name = s := by
  rw [one.name]
  exact own_name h.ok.sorted
 have hpl := h.box.lt
 refine ⟨⟨v,_,h.turn hk (r' := ⟨rs[Dk.spot s d.fs].name,x,rs[Dk.spot s d.fs].kept⟩) ?_ ⟨hn,one.kept,q.rows (By.own_mono o (Nat.zero_le _)) fun c ec z => ?_⟩ ((UpdQ.of b).trans q) (fun c ec => ?_) ok⟩,((UpdQ.of b).trans q).mono fun c z => (h.pv c z).1⟩
 ·
  unfold sl
  rw [hg]
  exact h1
 ·
  have h2 := hb c ec
  have h3 : c = g := Option.some.inj (z.symm.trans hgb)
  omega
 ·
  have h2 := hb c ec
  refine ⟨.inr h2,by omega,fun z => ?_⟩
  have h3 : c = g := Option.some.inj (z.symm.trans hgb)
  omega
theorem At.keepAll (h : At P w p d v rs) (hh : has s d.fs = true) {g : Nat} (hg : v.ao = some ⟨g,0,none⟩) (ok : Ok ⟨put ⟨s,(Dk.own s d.fs).bs,(Dk.own s d.fs).bs.length⟩ d.fs,d.off,d.left⟩) :
  Dsk (nw P w) (w.setCell ⟨g,Dk.spot s d.fs * 3 + 2,none⟩ (.int .i64 ((Dk.own s d.fs).bs.length : Nat))) p ⟨put ⟨s,(Dk.own s d.fs).bs,(Dk.own s d.fs).bs.length⟩ d.fs,d.off,d.left⟩ ∧ UpdQ P w (w.setCell ⟨g,Dk.spot s d.fs * 3 + 2,none⟩ (.int .i64 ((Dk.own s d.fs).bs.length : Nat))) := by
 obtain ⟨hk,one,_⟩ := h.spot hh
 have ho := h.own hg
 have hgb := own_block hg
 have q : UpdQ (fun c => (sl v).ownBlock = some c) w (w.setCell ⟨g,Dk.spot s d.fs * 3 + 2,none⟩ (.int .i64 ((Dk.own s d.fs).bs.length : Nat))) := UpdQ.set (Q := fun c => (sl v).ownBlock = some c) w hgb _ _
 have h1 := Rq.own_put ho (Dk.spot s d.fs) 2 hk (by omega) (.int .i64 ((Dk.own s d.fs).bs.length : Nat)) ⟨rs[Dk.spot s d.fs].name,rs[Dk.spot s d.fs].bytes,((Dk.own s d.fs).bs.length : Nat)⟩ rfl
 have e : put ⟨s,(Dk.own s d.fs).bs,(Dk.own s d.fs).bs.length⟩ d.fs = d.fs.set (Dk.spot s d.fs) ⟨s,(Dk.own s d.fs).bs,(Dk.own s d.fs).bs.length⟩ := put_at hh
 rw [e] at ok ⊢
 have hn : rs[Dk.spot s d.fs].name = s := by
  rw [one.name]
  exact own_name h.ok.sorted
 refine ⟨⟨v,_,h.turn hk (r' := ⟨rs[Dk.spot s d.fs].name,rs[Dk.spot s d.fs].bytes,((Dk.own s d.fs).bs.length : Nat)⟩) ?_ ⟨hn,rfl,q.rows one.own fun c ec z => (h.pb _ hk c ec).2.2 z⟩ q (fun c ec => ?_) ok⟩,q.mono fun c z => (h.pv c z).1⟩
 ·
  unfold sl
  rw [hg]
  exact h1
 ·
  obtain ⟨a1,a2,a3⟩ := h.pb _ hk c ec
  exact ⟨.inl a1,a2,a3⟩
theorem At.cells (h : At P w p d v rs) (hh : has s d.fs = true) : ∃ (g : Nat) (r : Rq.T),v.ao = some ⟨g,0,none⟩ ∧ Dk.spot s d.fs < v.n ∧ Rq.At w g (Dk.spot s d.fs * 3) r ∧ (∀ o,w.frozen? ⟨g,o,none⟩ = false) ∧ r.kept = ((Dk.own s d.fs).kept : Int) ∧ By.Ls w r.bytes.ao r.bytes.n r.bytes.cap (Dk.own s d.fs).bs ∧ r.bytes.n = (Dk.own s d.fs).bs.length ∧ By.Own w 0 (sl r.bytes) (Dk.own s d.fs).bs ∧ (∀ c,(sl r.bytes).ownBlock = some c → P c ∧ c ≠ p ∧ c ≠ g) ∧ g < w.heap.size ∧ g ≠ p := by
 obtain ⟨hk,one,g,hg,hgb⟩ := h.spot hh
 have hn := h.n
 obtain ⟨ha,hf⟩ := Rq.own_at (h.own hg) _ hk
 obtain ⟨ao,cap,e1,l1,_⟩ := By.own_ls one.own
 unfold sl at e1
 simp only [Value.slice.injEq] at e1
 obtain ⟨e11,e12,e13⟩ := e1
 refine ⟨g,rs[Dk.spot s d.fs],hg,by omega,ha,hf.1,one.kept,by rw [e11,e12,e13]; exact l1,e12,one.own,fun c ec => ?_,(World.ownsRow.lt h.rows g hgb).2,(h.pv g hgb).2⟩
 obtain ⟨a1,a2,a3⟩ := h.pb _ hk c ec
 exact ⟨a1,a2,fun z => a3 (z ▸ hgb)⟩
end
end Go.Proofs.Ytegniklofhopeaa.Dr
