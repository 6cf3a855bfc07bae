import Derived.BigQuiet
import Derived.Deep.RegionHeld3
import Derived.Maps.AppendAt
import Derived.Test.YtlmjeackfepllaaGreatDoorZWk2
import Derived.Test.YtlmjeackfepllaaGreatDoorZWk6
set_option maxRecDepth 100000
set_option linter.unusedVariables false
namespace Go.Proofs.YtlmjeackfepllaaGreatDoor
open Go.RowKit
open Mem Dk
theorem dk_clone (s : ByteArray) (w : World) (hs : s.size ≤ 24) : Calls Tryz.prog 83 #[.string s] w fun e w' => e = .returned (.string s) ∧ Below w.heap.size w w' := by
 have HC := Lib.hid (Tryz.stringslite_Clone s w (by omega))
 go_enter Tryz.func83,Tryz.ntmps83
 go_wp2_with (go_at_call 121; refine HC.out.mono ?_; rintro e w1 ⟨rfl,b1⟩; have HB := Lib.hid b1; clear b1)
 go_ret
 exact ⟨rfl,HB.out⟩
structure Dk.Loose (P : Nat → Prop) (w : World) (p : Nat) (v : Sl) (rs : List Fl.T) (r : Fl.T) (k : Nat) (bs : List UInt8) : Prop where
 kept : r.kept = (k : Int)
 own : By.Own w 0 (sl r.bytes) bs
 pb : Pb P p (sl v) r
 ap : ∀ x ∈ rs,Ap r x
theorem Fl.block_cells {u : World} {b : Nat} {r : Fl.T} (h : u.heap[b]? = some (Fl.block r)) : Fl.C u b r := by
 refine ⟨?_,?_,?_⟩
 all_goals rw [cell_of_row u b _ _ _ _ h]
 all_goals rfl
section
variable {P : Nat → Prop} {w : World} {p : Nat} {d : D} {v : Sl} {L : Int} {rs : List Fl.T}
theorem Dk.At.whole (h : At P w p d v L rs) {u : World} (k : UpdQ (fun b => b = p ∨ (sl v).ownBlock = some b) w u) {r : Fl.T} (hr : r ∈ rs) (g : Nat) (e : (sl r.bytes).ownBlock = some g) : u.heap[g]? = w.heap[g]? := by
 obtain ⟨n,hn,rfl⟩ := List.getElem_of_mem hr
 have h1 := h.pb n hn g e
 exact k.block g (World.ownsRow.lt (h.each.own n hn) g e).2 fun z => z.elim h1.2.1 h1.2.2
def Dk.LayE (P : Nat → Prop) (w : World) (p : Nat) (d : D) (v : Sl) (f : F) (e : Ending) (w' : World) : Prop :=
 e = .returned (.tuple #[]) ∧ Dsk (nw P w) w' p ⟨put f d.fs,d.off,d.left⟩ ∧ UpdQ (fun b => b = p ∨ (sl v).ownBlock = some b) w w'
theorem Dk.lay_set (h : At P w p d v L rs) {r : Fl.T} {k : Nat} {bs : List UInt8} {s : ByteArray} (lo : Loose P w p v rs r k bs) (hk : k ≤ bs.length) (hs : s.size ≤ 24) (hr : total (put ⟨s,bs,k⟩ d.fs) ≤ 4194304) (hh : has s d.fs = true) {u : World} (hu : Below w.heap.size w u) {g : Nat} (hv : (sl v).ownBlock = some g) (ho : Fl.Own u 0 (sl v) rs) :
  Dk.LayE P w p d v ⟨s,bs,k⟩ (.returned (.tuple #[])) (((u.setCell ⟨g,spot s d.fs * 3,none⟩ (.string s)).setCell ⟨g,spot s d.fs * 3 + 1,none⟩ (sl r.bytes)).setCell ⟨g,spot s d.fs * 3 + 2,none⟩ (.int .i64 r.kept)) := by
 have hsp := spot_lt h.ok.sorted hh
 have hgv : v = ⟨some ⟨g,0,none⟩,v.n,v.cap⟩ := by
  rcases ho.2 with ⟨e,_⟩ | ⟨g',cap,cur,e,_⟩
  ·
   rw [e] at hv
   cases hv
  ·
   have e' := e
   unfold sl at e'
   simp only [Value.slice.injEq] at e'
   rw [e] at hv
   obtain rfl : g' = g := by injection hv
   obtain ⟨a,n,c⟩ := v
   simp only at e'
   rw [e'.1]
 have hle : spot s d.fs < rs.length := h.each.len ▸ hsp
 have h1 : Fl.Own u 0 (.slice (some ⟨g,0,none⟩) v.n v.cap) rs := by
  rw [hgv] at ho
  exact ho
 have h2 := Fl.own_store h1 (spot s d.fs) hle ⟨s,r.bytes,r.kept⟩
 let Q : Nat → Prop := fun b => b = p ∨ (sl v).ownBlock = some b
 have k1 : UpdQ Q w (((u.setCell ⟨g,spot s d.fs * 3,none⟩ (.string s)).setCell ⟨g,spot s d.fs * 3 + 1,none⟩ (sl r.bytes)).setCell ⟨g,spot s d.fs * 3 + 2,none⟩ (.int .i64 r.kept)) :=
  ((((UpdQ.of hu).trans (UpdQ.set (Q := Q) u (.inr hv) _ _)).trans (UpdQ.set (Q := Q) _ (.inr hv) _ _)).trans (UpdQ.set (Q := Q) _ (.inr hv) _ _))
 have k2 : UpdQ (fun b => (sl v).ownBlock = some b) w (((u.setCell ⟨g,spot s d.fs * 3,none⟩ (.string s)).setCell ⟨g,spot s d.fs * 3 + 1,none⟩ (sl r.bytes)).setCell ⟨g,spot s d.fs * 3 + 2,none⟩ (.int .i64 r.kept)) :=
  ((((UpdQ.of hu).trans (UpdQ.set (Q := fun b => (sl v).ownBlock = some b) u hv _ _)).trans (UpdQ.set (Q := fun b => (sl v).ownBlock = some b) _ hv _ _)).trans (UpdQ.set (Q := fun b => (sl v).ownBlock = some b) _ hv _ _))
 refine ⟨rfl,⟨v,L,rs.take (spot s d.fs) ++ ([⟨s,r.bytes,r.kept⟩] ++ rs.drop (spot s d.fs + 1)),?_⟩,k1⟩
 have e := put_set (f := ⟨s,bs,k⟩) h.ok.sorted hh
 have okp := put_ok (f := ⟨s,bs,k⟩) h.ok hk hs hr
 have hlen := put_len_has (f := ⟨s,bs,k⟩) hh
 have few := h.few
 rw [e] at okp hlen ⊢
 refine At.turn h (mr := [⟨s,r.bytes,r.kept⟩]) (mf := [⟨s,bs,k⟩]) (i := spot s d.fs) (j := spot s d.fs + 1) (Nat.le_succ _) (h.box.keep (k2.block p h.box.lt fun z => (h.pv p z).2 rfl)) h.arm ?_ (fun x hx g e => h.whole k1 (cut_mem hx) g e) (EachF.single ⟨rfl,lo.kept,rows_keep lo.own fun g' e' => ?_⟩) (fun b z => .inl z) (fun b e => ⟨.inl (h.pv b e).1,(h.pv b e).2⟩) (fun b e => .inl e) (fun x hx => ?_) (List.pairwise_singleton _ _) (fun m hm x hx => ?_) okp ?_
 ·
  rw [List.set_eq_take_append_cons_drop,if_pos hle] at h2
  have : Fl.Own _ 0 (.slice (some ⟨g,0,none⟩) v.n v.cap) (rs.take (spot s d.fs) ++ ([⟨s,r.bytes,r.kept⟩] ++ rs.drop (spot s d.fs + 1))) := h2
  rw [hgv]
  exact this
 ·
  have hp := lo.pb g' e'
  exact k1.block g' (World.ownsRow.lt lo.own g' e').2 fun z => z.elim hp.2.1 hp.2.2
 ·
  rw [List.mem_singleton.1 hx]
  exact fun b e => ⟨.inl (lo.pb b e).1,(lo.pb b e).2⟩
 ·
  rw [List.mem_singleton.1 hm]
  exact lo.ap x (cut_mem hx)
 ·
  have hl2 : (put ⟨s,bs,k⟩ d.fs).length ≤ 1000 := by rw [put_len_has (f := ⟨s,bs,k⟩) hh]; exact few
  rw [e] at hl2
  exact hl2
theorem Dk.lay_ins (h : At P w p d v L rs) {r : Fl.T} {k : Nat} {bs : List UInt8} {s : ByteArray} (lo : Loose P w p v rs r k bs) (hk : k ≤ bs.length) (hs : s.size ≤ 24) (hr : total (put ⟨s,bs,k⟩ d.fs) ≤ 4194304) (hh : has s d.fs = false) (few : d.fs.length < 1000) {u u' : World} (hu : Below w.heap.size w u) {x : Sl} (ho : Fl.Own u' 0 (sl x) (rs.take (spot s d.fs) ++ (⟨s,r.bytes,r.kept⟩ : Fl.T) :: rs.drop (spot s d.fs))) (hx : (sl x).ownBlock = (sl v).ownBlock ∨ ∃ g,(sl x).ownBlock = some g ∧ u.heap.size ≤ g) (hq : UpdQ (fun b => (sl v).ownBlock = some b) u u') :
  (u'.frozen? ⟨p,0,none⟩ = false ∧ ∃ c,u'.cell? ⟨p,0,none⟩ = some c) ∧ Dk.LayE P w p d v ⟨s,bs,k⟩ (.returned (.tuple #[])) (u'.setCell ⟨p,0,none⟩ (sl x)) := by
 let Q : Nat → Prop := fun b => b = p ∨ (sl v).ownBlock = some b
 have k0 : UpdQ (fun b => (sl v).ownBlock = some b) w u' := (UpdQ.of hu).trans hq
 have hb := h.box.keep (k0.block p h.box.lt fun z => (h.pv p z).2 rfl)
 have k1 : UpdQ Q w (u'.setCell ⟨p,0,none⟩ (sl x)) := (k0.mono fun b z => .inr z).trans (UpdQ.set (Q := Q) u' (.inl rfl) 0 _)
 have k2 : UpdQ (fun b => b = p) u' (u'.setCell ⟨p,0,none⟩ (sl x)) := UpdQ.set (Q := fun b => b = p) u' rfl 0 _
 have hps : p < w.heap.size := h.box.lt
 have hne : ∀ b,(sl x).ownBlock = some b → b ≠ p := fun b e z => by
  rcases hx with hx | ⟨g,hx,hg⟩
  · exact (h.pv b (hx ▸ e)).2 z
  ·
   rw [hx] at e
   obtain rfl : g = b := by injection e
   have := hu.size
   omega
 refine ⟨⟨hb.frozen 0,_,hb.cells.1⟩,rfl,⟨x,L,rs.take (spot s d.fs) ++ ([⟨s,r.bytes,r.kept⟩] ++ rs.drop (spot s d.fs)),?_⟩,k1⟩
 have e := put_ins (f := ⟨s,bs,k⟩) hh
 have okp := put_ok (f := ⟨s,bs,k⟩) h.ok hk hs hr
 have hlen : (put ⟨s,bs,k⟩ d.fs).length ≤ 1000 := by have := put_len ⟨s,bs,k⟩ d.fs; omega
 rw [e] at okp hlen ⊢
 refine At.turn h (mr := [⟨s,r.bytes,r.kept⟩]) (mf := [⟨s,bs,k⟩]) (i := spot s d.fs) (j := spot s d.fs) (Nat.le_refl _) (hb.slice x) h.arm (k2.rows ho fun b e z => hne b e z) (fun y hy g e => h.whole k1 (cut_mem hy) g e) (EachF.single ⟨rfl,lo.kept,rows_keep lo.own fun g' e' => ?_⟩) (fun b z => .inl z) (fun b e => ⟨?_,hne b e⟩) (fun b e => ?_) (fun y hy => ?_) (List.pairwise_singleton _ _) (fun m hm y hy => ?_) okp hlen
 ·
  have hp := lo.pb g' e'
  exact k1.block g' (World.ownsRow.lt lo.own g' e').2 fun z => z.elim hp.2.1 hp.2.2
 ·
  rcases hx with hx | ⟨g,hx,hg⟩
  · exact .inl (h.pv b (hx ▸ e)).1
  ·
   rw [hx] at e
   obtain rfl : g = b := by injection e
   exact .inr (Nat.le_trans hu.size hg)
 ·
  rcases hx with hx | ⟨g,hx,hg⟩
  · exact .inl (hx ▸ e)
  ·
   rw [hx] at e
   obtain rfl : g = b := by injection e
   exact .inr (Nat.le_trans hu.size hg)
 ·
  rw [List.mem_singleton.1 hy]
  intro b e
  have hp := lo.pb b e
  refine ⟨.inl hp.1,hp.2.1,fun z => ?_⟩
  rcases hx with hx | ⟨g,hx,hg⟩
  · exact hp.2.2 (hx ▸ z)
  ·
   rw [hx] at z
   obtain rfl : g = b := by injection z
   have h1 := (World.ownsRow.lt lo.own g e).2
   have := hu.size
   omega
 ·
  rw [List.mem_singleton.1 hm]
  exact lo.ap y (cut_mem hy)
set_option maxHeartbeats 4000000 in
theorem dk_lay (h : At P w p d v L rs) (r : Fl.T) (k : Nat) (bs : List UInt8) (s : ByteArray) (lo : Loose P w p v rs r k bs) (hk : k ≤ bs.length) (hs : s.size ≤ 24) (hr : total (put ⟨s,bs,k⟩ d.fs) ≤ 4194304) (few : d.fs.length < 1000) :
  Calls Tryz.prog 71 #[.pointer (some ⟨p,0,none⟩),.agg #[.string r.name,.slice r.bytes.ao r.bytes.n r.bytes.cap,.int .i64 r.kept],.string s] w (Dk.LayE P w p d v ⟨s,bs,k⟩) := by
 obtain ⟨W1,hW1⟩ : ∃ W1,w.alloc (.cells #[.string r.name,.slice r.bytes.ao r.bytes.n r.bytes.cap,.int .i64 r.kept] 90) = W1 := ⟨_,rfl⟩
 have hb1 : Below w.heap.size w W1 := hW1 ▸ (Below.refl _ _).alloc (Nat.le_refl _) _
 have hx1 : W1.heap[w.heap.size]? = some (Fl.block r) := hW1 ▸ heap_alloc_new w _
 have hlt1 : w.heap.size < W1.heap.size := (Array.getElem?_eq_some_iff.1 hx1).1
 have H := Lib.hid h
 have HLo := Lib.hid lo
 have HCl := Lib.hid (dk_clone s W1 hs)
 have HFin : Hid (∀ W2,Below W1.heap.size W1 W2 → W2.frozen? ⟨w.heap.size,0,none⟩ = false ∧ (∃ c,W2.cell? ⟨w.heap.size,0,none⟩ = some c) ∧ (W2.setCell ⟨w.heap.size,0,none⟩ (.string s)).heap[w.heap.size]? = some (Fl.block ⟨s,r.bytes,r.kept⟩) ∧ Below w.heap.size w (W2.setCell ⟨w.heap.size,0,none⟩ (.string s))) := Lib.hid fun W2 h2 => by
  have hx2 := (h2.block _ hlt1).trans hx1
  exact ⟨frozen_of_row W2 _ 0 _ _ hx2,⟨_,(Fl.block_cells hx2).1⟩,(heap_setCell_same W2 _ 0 _ _ _ hx2).trans rfl,(bchain hb1 h2).setCell (Nat.le_refl _) _⟩
 clear h lo hb1 hx1 hlt1
 go_enter Tryz.func71,Tryz.ntmps71
 go_wp2_with (go_at_call 83; refine HCl.out.mono ?_)
 rintro e W2 ⟨rfl,h2⟩
 obtain ⟨g0,⟨c,g1⟩,g2,g3⟩ := HFin.out W2 h2
 obtain ⟨W3,hW3⟩ : ∃ W3,W2.setCell ⟨w.heap.size,0,none⟩ (.string s) = W3 := ⟨_,rfl⟩
 rw [hW3] at g2 g3
 have HX3 := Lib.hid g2
 have HB3 := Lib.hid g3
 have HF := Lib.hid (dk_find (H.out.below g3) s)
 clear h2 g2 g3 hW1 HFin HCl
 go_wp2_with (go_at_call 70; refine HF.out.mono ?_)
 rintro e W4 ⟨rfl,h4⟩
 have HX4 := Lib.hid ((h4.block _ (Array.getElem?_eq_some_iff.1 HX3.out).1).trans HX3.out)
 have HB4 := Lib.hid (bchain HB3.out h4)
 have ha := Fl.block_cells HX4.out
 have a0 : W4.cell? ⟨w.heap.size,0,none⟩ = some (.string s) := ha.1
 have a1 : W4.cell? ⟨w.heap.size,1,none⟩ = some (.slice r.bytes.ao r.bytes.n r.bytes.cap) := ha.2.1
 have a2 : W4.cell? ⟨w.heap.size,2,none⟩ = some (.int .i64 r.kept) := ha.2.2
 clear ha
 have h4' := H.out.below HB4.out
 obtain ⟨c0,c1,c2,c3⟩ := h4'.box.cells
 have HA4 := Lib.hid h4'
 clear g0 g1 hW3 HX3 HB3 HF h4 h4'
 cases hh : has s d.fs
 ·
  have HH := Lib.hid hh
  have hn := H.out.n
  have hsp := spot_le s d.fs
  obtain ⟨ao,n,cap⟩ := v
  simp only at hn c0
  have hI := Lib.hid (Fl.insert_any (W4.drew.alloc (Fl.block ⟨s,r.bytes,r.kept⟩)) ao n cap W4.heap.size (spot s d.fs) rs ⟨s,r.bytes,r.kept⟩ (Fl.own_alloc (Fl.own_drew HA4.out.rows) _) H.out.shorts (heap_alloc_new W4.drew _) (fun b e z => by
   have h1 := (World.ownsRow.lt HA4.out.rows b e).2
   omega) (by omega) (by rw [hn.1]; omega))
  have HLi : Hid (∀ u' (x : Sl),Fl.InsE (W4.drew.alloc (Fl.block ⟨s,r.bytes,r.kept⟩)) (.slice ao n cap) rs (spot s d.fs) ⟨s,r.bytes,r.kept⟩ (.returned (sl x)) u' → (u'.frozen? ⟨p,0,none⟩ = false ∧ ∃ c,u'.cell? ⟨p,0,none⟩ = some c) ∧ Dk.LayE P w p d ⟨ao,n,cap⟩ ⟨s,bs,k⟩ (.returned (.tuple #[])) (u'.setCell ⟨p,0,none⟩ (sl x))) := Lib.hid fun u' x hi => by
   obtain ⟨v',e1,o1,x1,q1⟩ := hi
   cases e1
   exact Dk.lay_ins H.out HLo.out hk hs hr HH.out few (bchain HB4.out ((Below.refl _ _).drew.alloc (Nat.le_refl _) _)) o1 x1 q1
  have hpl : p < W4.heap.size := HA4.out.box.lt
  generalize spot s d.fs = sp at hI HLi hsp
  have hsm : sp ≤ 1000 := by omega
  clear hn hh HX4
  go_wp2_with fail
  go_region_with (go_at_call 114; refine hI.out.mono ?_; rintro e u' hE; obtain ⟨v',rfl,o1,x1,q1⟩ := hE; obtain ⟨x,rfl⟩ := own_sl o1; obtain ⟨⟨e1,c,e2⟩,e3⟩ := HLi.out u' x ⟨_,rfl,o1,x1,q1⟩; have HE := Lib.hid e3; clear o1 x1 q1 e3; unfold sl at HE ⊢)
  all_goals go_wp2_with fail
  all_goals go_end0
  all_goals exact HE.out
 ·
  have HH := Lib.hid hh
  have hsp := spot_lt H.out.ok.sorted hh
  have hn := H.out.n
  have hle : spot s d.fs < rs.length := by omega
  obtain ⟨ao,n,cap⟩ := v
  obtain ⟨g,rfl⟩ : ∃ g,ao = some ⟨g,0,none⟩ := by
   rcases HA4.out.rows.2 with ⟨e,e2⟩ | ⟨g,cap',cur,e,_⟩
   · omega
   ·
    unfold sl at e
    simp only [Value.slice.injEq] at e
    exact ⟨g,e.1⟩
  simp only at hn c0
  obtain ⟨⟨q0,q1,q2⟩,qf,_⟩ := Fl.own_at (HA4.out.rows : Fl.Own W4 0 (.slice (some ⟨g,0,none⟩) n cap) rs) (spot s d.fs) hle
  have f0 := qf (spot s d.fs * 3)
  have f1 := qf (spot s d.fs * 3 + 1)
  have f2 := qf (spot s d.fs * 3 + 2)
  have HE := Lib.hid (Dk.lay_set H.out HLo.out hk hs hr HH.out (u := W4.drew) HB4.out.drew (g := g) rfl (Fl.own_drew HA4.out.rows))
  unfold sl at HE
  generalize rs[spot s d.fs] = r0 at q0 q1 q2
  have hspn : spot s d.fs < n := by omega
  generalize spot s d.fs = sp at q0 q1 q2 f0 f1 f2 HE hspn
  clear hn hh HX4 hsp hle qf
  go_wp2_with fail
  go_region
  go_wp2_with fail
  go_end0
  exact HE.out
end
end Go.Proofs.YtlmjeackfepllaaGreatDoor
namespace Go.Proofs.YtlmjeackfepllaaGreatDoor
open Go.RowKit
open Mem Dk
theorem By.und1 : Tryz.prog.underlying 59 = some (.slice (Tryz.prog.elem 59)) := by kernel_rfl
theorem By.size1 (u : World) : (sizeOf (Tryz.prog.elem 59)).run Tryz.prog u = .ok 1 u := by
 have h : (Tryz.prog.info? (Tryz.prog.elem 59)).map (·.size) = some 1 := by kernel_rfl
 obtain ⟨i,hi,hs⟩ := Option.map_eq_some_iff.1 h
 simp [sizeOf,typeInfo,hi,hs]
theorem By.own_head {w : World} {B : Nat} {s : Sl} {xs : List UInt8} (h : By.Own w B (sl s) xs) (m : Nat) (hm : m ≤ xs.length) :
  By.Own w B (sl ⟨s.ao,m,s.cap⟩) (xs.take m) ∧ (sl ⟨s.ao,m,s.cap⟩).ownBlock = (sl s).ownBlock ∧ ∀ u,(Instr.slice 59 (.slice s.ao s.n s.cap) none (some (.int .i64 (m : Int))) none).run Tryz.prog u = .ok (.slice s.ao m s.cap) u := by
 obtain ⟨ao,n,cap⟩ := s
 unfold sl at h ⊢
 simp only
 rcases h.2 with ⟨e,e2⟩ | ⟨g,cap',cur,e,hB,hg,hn,hc,hs,ht⟩
 ·
  simp only [Value.slice.injEq] at e
  obtain ⟨rfl,rfl,rfl⟩ := e
  obtain rfl : m = 0 := by omega
  refine ⟨⟨by simp,.inl ⟨rfl,by simp⟩⟩,rfl,fun u => ?_⟩
  rw [run_slice_h u 59 none 0 0 By.und1 .i64 ((0 : Nat) : Int) (by omega) (by omega),By.size1]
  rfl
 ·
  simp only [Value.slice.injEq] at e
  obtain ⟨rfl,rfl,rfl⟩ := e
  have hl : (xs.take m).length = m := by rw [List.length_take]; omega
  refine ⟨⟨by simp,.inr ⟨g,cap,cur,by rw [hl],hB,hg,by rw [hl]; omega,hc,hs,?_⟩⟩,rfl,fun u => ?_⟩
  ·
   rw [hl,List.map_take,← ht,List.take_take,Nat.min_eq_left (by omega)]
   simp
  ·
   rw [run_slice_h u 59 (some ⟨g,0,none⟩) xs.length cap By.und1 .i64 (m : Int) (by omega) (by omega),By.size1]
   simp [Result.andThen,sliced,Addr.add]
theorem fl_keep (w : World) (g n cap : Nat) (M : List Fl.T) (k : Nat) (h : Fl.Own w 0 (.slice (some ⟨g,0,none⟩) n cap) M) (hk : k < M.length) (hn : M[k].bytes.n ≤ 9223372036854775807) :
  Calls Tryz.prog 91 #[.pointer (some ⟨g,k * 3,none⟩)] w fun e w' => e = .returned (.tuple #[]) ∧ w' = w.setCell ⟨g,k * 3 + 2,none⟩ (.int .i64 (M[k].bytes.n : Int)) := by
 obtain ⟨⟨q0,q1,q2⟩,qf,_⟩ := Fl.own_at h k hk
 have f2 := qf (k * 3 + 2)
 generalize M[k] = r at q0 q1 q2 hn ⊢
 clear h hk qf
 go_enter Tryz.func91,Tryz.ntmps91
 go_wp2_with fail
 go_end0
 exact ⟨rfl,rfl⟩
theorem fl_shorten (w : World) (g n cap : Nat) (M : List Fl.T) (k m : Nat) (h : Fl.Own w 0 (.slice (some ⟨g,0,none⟩) n cap) M) (hk : k < M.length) (hs : ∀ u,(Instr.slice 59 (.slice M[k].bytes.ao M[k].bytes.n M[k].bytes.cap) none (some (.int .i64 (m : Int))) none).run Tryz.prog u = .ok (.slice M[k].bytes.ao m M[k].bytes.cap) u) (kp : Nat) (hkp : M[k].kept = (kp : Int)) :
  Calls Tryz.prog 89 #[.pointer (some ⟨g,k * 3,none⟩),.int .i64 (m : Int)] w fun e w' => e = .returned (.tuple #[]) ∧ w' = (w.setCell ⟨g,k * 3 + 1,none⟩ (.slice M[k].bytes.ao m M[k].bytes.cap)).setCell ⟨g,k * 3 + 2,none⟩ (.int .i64 ((min kp m : Nat) : Int)) := by
 obtain ⟨⟨q0,q1,q2⟩,qf,_⟩ := Fl.own_at h k hk
 have f1 := qf (k * 3 + 1)
 have f2 := qf (k * 3 + 2)
 rw [hkp] at q2
 generalize M[k] = r at q0 q1 q2 hs ⊢
 rw [show ((min kp m : Nat) : Int) = min (kp : Int) (m : Int) by omega]
 clear h hk qf hkp
 go_enter Tryz.func89,Tryz.ntmps89
 go_wp2_with fail
 go_end0
 exact ⟨rfl,rfl⟩
section
variable {P : Nat → Prop} {w u : World} {p : Nat} {d : D} {v : Sl} {L : Int} {rs : List Fl.T}
theorem Dk.others {k : Nat} (h : rs.Pairwise Ap) (hk : k < rs.length) {x : Fl.T} (hx : x ∈ rs.take k ++ rs.drop (k + 1)) : Ap rs[k] x := by
 have e : rs = rs.take k ++ rs[k] :: rs.drop (k + 1) := by rw [← List.drop_eq_getElem_cons hk,List.take_append_drop]
 have h2 : (rs.take k ++ rs[k] :: rs.drop (k + 1)).Pairwise Ap := e ▸ h
 have h3 := List.pairwise_append.1 h2
 rcases List.mem_append.1 hx with hx | hx
 · exact (h3.2.2 x hx _ (List.mem_cons_self ..)).symm
 · exact (List.pairwise_cons.1 h3.2.1).1 x hx
theorem Dk.At.row (h : At P w p d v L rs) {k : Nat} (hk : k < rs.length) {r' : Fl.T} {f' : F} (rows : Fl.Own u 0 (sl v) (rs.set k r')) (one : One u r' f') (hu : UpdQ (fun b => (sl v).ownBlock = some b ∨ (sl rs[k].bytes).ownBlock = some b) w u)
  (hb : (sl r'.bytes).ownBlock = (sl rs[k].bytes).ownBlock ∨ ∃ g,(sl r'.bytes).ownBlock = some g ∧ w.heap.size ≤ g) (ok : Ok ⟨d.fs.set k f',d.off,d.left⟩) : At (nw P w) u p ⟨d.fs.set k f',d.off,d.left⟩ v L (rs.set k r') := by
 have hkf : k < d.fs.length := h.each.len ▸ hk
 have e1 : rs.set k r' = rs.take k ++ ([r'] ++ rs.drop (k + 1)) := List.set_eq_take_append_cons_drop.trans (if_pos hk)
 have e2 : d.fs.set k f' = d.fs.take k ++ ([f'] ++ d.fs.drop (k + 1)) := List.set_eq_take_append_cons_drop.trans (if_pos hkf)
 have few : (d.fs.set k f').length ≤ 1000 := by rw [List.length_set]; exact h.few
 rw [e1] at rows ⊢
 rw [e2] at ok few ⊢
 have hold := h.pb k hk
 refine At.turn h (mr := [r']) (mf := [f']) (Nat.le_succ k) (h.box.keep (hu.block p h.box.lt fun z => z.elim (fun z => (h.pv p z).2 rfl) fun z => (hold p z).2.1 rfl)) h.arm rows (fun x hx g e => ?_) (EachF.single one) (fun b z => .inl z) (fun b e => ⟨.inl (h.pv b e).1,(h.pv b e).2⟩) (fun b e => .inl e) (fun y hy => ?_) (List.pairwise_singleton _ _) (fun m hm y hy => ?_) ok few
 ·
  obtain ⟨n,hn,e'⟩ := List.getElem_of_mem (cut_mem hx)
  subst e'
  have h1 := h.pb n hn g e
  exact hu.block g (World.ownsRow.lt (h.each.own n hn) g e).2 fun z => z.elim h1.2.2 fun z => others h.aps hk hx g z e
 ·
  rw [List.mem_singleton.1 hy]
  intro b e
  rcases hb with hb | ⟨g,hb,hg⟩
  ·
   have h1 := hold b (hb ▸ e)
   exact ⟨.inl h1.1,h1.2⟩
  ·
   rw [hb] at e
   obtain rfl : g = b := by injection e
   refine ⟨.inr hg,fun z => ?_,fun z => ?_⟩
   ·
    have := h.box.lt
    omega
   ·
    have := (World.ownsRow.lt h.rows g z).2
    omega
 ·
  rw [List.mem_singleton.1 hm]
  intro b e1 e2
  rcases hb with hb | ⟨g,hb,hg⟩
  · exact others h.aps hk hy b (hb ▸ e1) e2
  ·
   rw [hb] at e1
   obtain rfl : g = b := by injection e1
   obtain ⟨n,hn,e'⟩ := List.getElem_of_mem (cut_mem hy)
   subst e'
   have := (World.ownsRow.lt (h.each.own n hn) g e2).2
   omega
theorem Dk.At.spot (h : At P w p d v L rs) (hn : 0 < v.n) : ∃ g,v.ao = some ⟨g,0,none⟩ ∧ (sl v).ownBlock = some g := by
 obtain ⟨ao,n,cap⟩ := v
 have e := h.n.2.2.2
 rcases h.rows.2 with ⟨e1,e2⟩ | ⟨g,cap',cur,e1,_⟩
 ·
  simp only at e hn
  omega
 ·
  unfold sl at e1
  simp only [Value.slice.injEq] at e1
  exact ⟨g,e1.1,by unfold sl; simp only; rw [e1.1]; rfl⟩
end
end Go.Proofs.YtlmjeackfepllaaGreatDoor
namespace Go.Proofs.YtlmjeackfepllaaGreatDoor
open Go.RowKit
open Mem Dk
def Dk.OpE (P : Nat → Prop) (w : World) (p : Nat) (x : Int × D) (e : Ending) (w' : World) : Prop := e = .returned (.int .i64 x.1) ∧ Dsk (nw P w) w' p x.2 ∧ UpdQ P w w'
section
variable {P : Nat → Prop} {w u : World} {p : Nat} {d : D} {v : Sl} {L : Int} {rs : List Fl.T} {s : ByteArray}
theorem Dk.OpE.since {x : Int × D} {e : Ending} {w' : World} (h : OpE P u p x e w') (k : UpdQ P w u) : OpE P w p x e w' :=
 ⟨h.1,h.2.1.mono fun b z => z.imp id fun z => Nat.le_trans k.size z,k.trans h.2.2⟩
theorem Dk.opE_same (h : At P w p d v L rs) (n : Int) : OpE P w p (n,d) (.returned (.int .i64 n)) w := ⟨rfl,⟨v,L,rs,h.mono fun b z => .inl z⟩,UpdQ.refl _ _⟩
theorem Dk.row_own (h : At P w p d v L rs) (hh : has s d.fs = true) : ∃ hk : spot s d.fs < rs.length,rs[spot s d.fs].name = s ∧ rs[spot s d.fs].kept = ((own s d.fs).kept : Int) ∧ By.Own w 0 (sl rs[spot s d.fs].bytes) (own s d.fs).bs := by
 have hf := spot_lt h.ok.sorted hh
 have hk : spot s d.fs < rs.length := h.each.len ▸ hf
 refine ⟨hk,?_,?_,?_⟩
 ·
  rw [h.each.name _ hk]
  exact spot_name h.ok.sorted hh
 ·
  rw [own_at h.ok.sorted hh]
  exact h.each.kept _ hk
 ·
  rw [own_at h.ok.sorted hh]
  exact h.each.own _ hk
theorem Dk.put_at {f : F} {l : List F} (h : has f.name l = true) : put f l = l.set (Dk.spot f.name l) f := if_pos h
theorem Dk.put_ok_own (h : Ok d) (hh : has s d.fs = true) {bs : List UInt8} {k : Nat} (hk : k ≤ bs.length) (hb : bs.length ≤ (own s d.fs).bs.length) : Ok ⟨put ⟨s,bs,k⟩ d.fs,d.off,d.left⟩ := by
 have hn := h.names _ (own_mem h.sorted hh)
 rw [own_name h.sorted] at hn
 have ht := total_put (f := ⟨s,bs,k⟩) h.sorted
 have hr := h.room
 exact put_ok h hk hn (by simp only at ht; omega)
theorem Dk.row_put (h : At P w p d v L rs) (hh : has s d.fs = true) {r' : Fl.T} {bs : List UInt8} {k : Nat} (rows : Fl.Own u 0 (sl v) (rs.set (spot s d.fs) r')) (one : One u r' ⟨s,bs,k⟩) (hu : UpdQ P w u) (hu2 : ∀ hk : spot s d.fs < rs.length,UpdQ (fun b => (sl v).ownBlock = some b ∨ (sl rs[spot s d.fs].bytes).ownBlock = some b) w u)
  (hb : ∀ hk : spot s d.fs < rs.length,(sl r'.bytes).ownBlock = (sl rs[spot s d.fs].bytes).ownBlock ∨ ∃ g,(sl r'.bytes).ownBlock = some g ∧ w.heap.size ≤ g) (ok : Ok ⟨put ⟨s,bs,k⟩ d.fs,d.off,d.left⟩) : OpE P w p (0,⟨put ⟨s,bs,k⟩ d.fs,d.off,d.left⟩) (.returned (.int .i64 0)) u := by
 obtain ⟨hk,_⟩ := row_own h hh
 rw [put_at (f := ⟨s,bs,k⟩) hh] at ok ⊢
 exact ⟨rfl,⟨v,L,_,Dk.At.row h hk rows one (hu2 hk) (hb hk) ok⟩,hu⟩
theorem Dk.At.pq (h : At P w p d v L rs) {g : Nat} (hg : (sl v).ownBlock = some g) : P g := (h.pv g hg).1
theorem Dk.sl_eq {g : Nat} (h : v.ao = some ⟨g,0,none⟩) : sl v = .slice (some ⟨g,0,none⟩) v.n v.cap := by
 unfold sl
 rw [h]
theorem Dk.sync_done (h : At P w p d v L rs) (hh : has s d.fs = true) {g : Nat} (hv : v.ao = some ⟨g,0,none⟩) (hk : spot s d.fs < rs.length) :
  OpE P w p (0,⟨put ⟨s,(own s d.fs).bs,(own s d.fs).bs.length⟩ d.fs,d.off,d.left⟩) (.returned (.int .i64 0)) (w.setCell ⟨g,spot s d.fs * 3 + 2,none⟩ (.int .i64 (rs[spot s d.fs].bytes.n : Int))) := by
 obtain ⟨_,h1,h2,h3⟩ := row_own h hh
 have hg : (sl v).ownBlock = some g := by rw [sl_eq hv]; rfl
 have k1 : UpdQ (fun b => (sl v).ownBlock = some b) w (w.setCell ⟨g,spot s d.fs * 3 + 2,none⟩ (.int .i64 (rs[spot s d.fs].bytes.n : Int))) := UpdQ.set (Q := fun b => (sl v).ownBlock = some b) w hg _ _
 have hr := h.rows
 rw [sl_eq hv] at hr
 have h4 := Fl.own_put hr (spot s d.fs) 2 hk (by omega) (.int .i64 (rs[spot s d.fs].bytes.n : Int)) ⟨rs[spot s d.fs].name,rs[spot s d.fs].bytes,(rs[spot s d.fs].bytes.n : Int)⟩ rfl
 rw [← sl_eq hv] at h4
 refine row_put h hh h4 ⟨h1,?_,k1.rows h3 fun b e z => (h.pb _ hk b e).2.2 z⟩ (k1.mono fun b z => (h.pv b z).1) (fun _ => k1.mono fun b z => .inl z) (fun _ => .inl rfl) (put_ok_own h.ok hh (Nat.le_refl _) (Nat.le_refl _))
 show (rs[spot s d.fs].bytes.n : Int) = ((own s d.fs).bs.length : Int)
 rw [(Dk.own_n h3).1]
set_option maxHeartbeats 2000000 in
theorem dk_sync (h : At P w p d v L rs) (s : ByteArray) : Calls Tryz.prog 45 #[.pointer (some ⟨p,0,none⟩),.string s] w (OpE P w p (syncD d s)) := by
 have H := Lib.hid h
 have HF := Lib.hid (dk_find h s)
 clear h
 go_enter Tryz.func45,Tryz.ntmps45
 go_wp2_with (go_at_call 70; refine HF.out.mono ?_)
 rintro e W1 ⟨rfl,b1⟩
 have h1 := H.out.below b1
 obtain ⟨c0,c1,c2,c3⟩ := h1.box.cells
 have H1 := Lib.hid h1
 have HB := Lib.hid (UpdQ.of (Q := P) b1)
 have HSp := Lib.hid (dk_spend h1)
 clear HF h1 b1 H
 cases hoff : d.off
 ·
  rw [hoff] at c1
  cases hh : has s d.fs
  ·
   have HE : Hid (OpE P w p (syncD d s) (.returned (.int .i64 11)) W1) := Lib.hid (by
    unfold syncD
    rw [if_neg (by rw [hoff]; exact Bool.false_ne_true),if_pos hh]
    exact (opE_same H1.out 11).since HB.out)
   clear hoff hh
   go_wp2_with fail
   go_ret
   exact HE.out
  ·
   have HH := Lib.hid hh
   have HOf := Lib.hid hoff
   clear hoff hh
   go_wp2_with (go_at_call 69; refine HSp.out.mono ?_)
   rintro e W2 ⟨hE,u2⟩
   have HB2 := Lib.hid (HB.out.trans (u2.mono (R := P) fun b z => z ▸ H1.out.pp))
   clear HSp u2 c0 c1 c2 c3
   rcases hE with ⟨hl,rfl,L',h2⟩ | ⟨hl,rfl,L',h2⟩
   ·
    obtain ⟨hk,-⟩ := row_own h2 (show has s (spent d).fs = true from HH.out)
    have hk' : spot s d.fs < rs.length := hk
    have hn := h2.n
    obtain ⟨g,hv,-⟩ := Dk.At.spot h2 (by omega)
    have hbn : rs[spot s d.fs].bytes.n ≤ 9223372036854775807 := by have := Dk.own_n (h2.each.own _ hk'); omega
    have HK := Lib.hid (fl_keep W2 g v.n v.cap rs (spot s d.fs) (sl_eq hv ▸ h2.rows) hk' hbn)
    have HE : Hid (OpE P w p (syncD d s) (.returned (.int .i64 0)) (W2.setCell ⟨g,spot s d.fs * 3 + 2,none⟩ (.int .i64 (rs[spot s d.fs].bytes.n : Int)))) := Lib.hid (by
     unfold syncD
     rw [if_neg (by rw [HOf.out]; exact Bool.false_ne_true),if_neg (by rw [HH.out]; exact Bool.true_eq_false.mp ∘ id),if_neg hl]
     exact (sync_done h2 HH.out hv hk).since HB2.out)
    obtain ⟨c0,c1,c2,c3⟩ := h2.box.cells
    rw [hv] at c0
    have hsn : spot s d.fs < v.n := by omega
    generalize rs[spot s d.fs].bytes.n = bn at HK HE hbn
    generalize spot s d.fs = sp at HK HE hsn ⊢
    clear h2 hk hk' hn hv
    go_wp2_with (go_at_call 91; refine HK.out.mono ?_; rintro e W3 ⟨rfl,rfl⟩)
    go_ret
    exact HE.out
   ·
    have HE : Hid (OpE P w p (syncD d s) (.returned (.int .i64 18)) W2) := Lib.hid (by
     unfold syncD
     rw [if_neg (by rw [HOf.out]; exact Bool.false_ne_true),if_neg (by rw [HH.out]; exact Bool.true_eq_false.mp ∘ id),if_pos hl]
     exact (opE_same h2 18).since HB2.out)
    clear h2 hl
    go_wp2_with fail
    go_ret
    exact HE.out
 ·
  rw [hoff] at c1
  have HE : Hid (OpE P w p (syncD d s) (.returned (.int .i64 18)) W1) := Lib.hid (by
   unfold syncD
   rw [if_pos hoff]
   exact (opE_same H1.out 18).since HB.out)
  clear hoff
  go_wp2_with fail
  go_ret
  exact HE.out
set_option maxHeartbeats 2000000 in
theorem dk_remove (h : At P w p d v L rs) (s : ByteArray) : Calls Tryz.prog 38 #[.pointer (some ⟨p,0,none⟩),.string s] w (OpE P w p (remD d s)) := by
 have H := Lib.hid h
 have HF := Lib.hid (dk_find h s)
 clear h
 go_enter Tryz.func38,Tryz.ntmps38
 go_wp2_with (go_at_call 70; refine HF.out.mono ?_)
 rintro e W1 ⟨rfl,b1⟩
 have h1 := H.out.below b1
 obtain ⟨c0,c1,c2,c3⟩ := h1.box.cells
 have H1 := Lib.hid h1
 have HB := Lib.hid (UpdQ.of (Q := P) b1)
 have HSp := Lib.hid (dk_spend h1)
 clear HF h1 b1 H
 cases hoff : d.off
 ·
  rw [hoff] at c1
  cases hh : has s d.fs
  ·
   have HE : Hid (OpE P w p (remD d s) (.returned (.int .i64 11)) W1) := Lib.hid (by
    unfold remD
    rw [if_neg (by rw [hoff]; exact Bool.false_ne_true),if_pos hh]
    exact (opE_same H1.out 11).since HB.out)
   clear hoff hh
   go_wp2_with fail
   go_ret
   exact HE.out
  ·
   have HH := Lib.hid hh
   have HOf := Lib.hid hoff
   clear hoff hh
   go_wp2_with (go_at_call 69; refine HSp.out.mono ?_)
   rintro e W2 ⟨hE,u2⟩
   have HB2 := Lib.hid (HB.out.trans (u2.mono (R := P) fun b z => z ▸ H1.out.pp))
   clear HSp u2 c0 c1 c2 c3
   rcases hE with ⟨hl,rfl,L',h2⟩ | ⟨hl,rfl,L',h2⟩
   ·
    have HD := Lib.hid (dk_drop h2 s (show has s (spent d).fs = true from HH.out))
    have HE : Hid (∀ e u,DropE P W2 p (spent d) v L' rs s e u → e = .returned (.tuple #[]) ∧ OpE P w p (remD d s) (.returned (.int .i64 0)) u) := Lib.hid fun e u hD => by
     obtain ⟨rfl,v',h3,_,q3⟩ := hD
     refine ⟨rfl,?_⟩
     unfold remD
     rw [if_neg (by rw [HOf.out]; exact Bool.false_ne_true),if_neg (by rw [HH.out]; exact Bool.true_eq_false.mp ∘ id),if_neg hl]
     exact OpE.since ⟨rfl,⟨v',L',_,h3.mono fun b z => .inl z⟩,q3.mono fun b z => z.elim (fun z => z ▸ h2.pp) fun z => (h2.pv b z).1⟩ HB2.out
    have HD' : Hid (Calls Tryz.prog 84 #[.pointer (some ⟨p,0,none⟩),.int .i64 (spot s d.fs : Nat)] W2 (DropE P W2 p (spent d) v L' rs s)) := HD
    generalize spot s d.fs = sp at HD' ⊢
    clear h2 HD hl
    go_wp2_with (go_at_call 84; refine HD'.out.mono ?_; rintro e W3 hD; obtain ⟨rfl,hO⟩ := HE.out e W3 hD; have HO := Lib.hid hO; clear hO hD)
    go_ret
    exact HO.out
   ·
    have HE : Hid (OpE P w p (remD d s) (.returned (.int .i64 18)) W2) := Lib.hid (by
     unfold remD
     rw [if_neg (by rw [HOf.out]; exact Bool.false_ne_true),if_neg (by rw [HH.out]; exact Bool.true_eq_false.mp ∘ id),if_pos hl]
     exact (opE_same h2 18).since HB2.out)
    clear h2 hl
    go_wp2_with fail
    go_ret
    exact HE.out
 ·
  rw [hoff] at c1
  have HE : Hid (OpE P w p (remD d s) (.returned (.int .i64 18)) W1) := Lib.hid (by
   unfold remD
   rw [if_pos hoff]
   exact (opE_same H1.out 18).since HB.out)
  clear hoff
  go_wp2_with fail
  go_ret
  exact HE.out
end
end Go.Proofs.YtlmjeackfepllaaGreatDoor
namespace Go.Proofs.YtlmjeackfepllaaGreatDoor
open Go.RowKit
open Mem Dk
section
variable {P : Nat → Prop} {w u : World} {p : Nat} {d : D} {v : Sl} {L : Int} {rs : List Fl.T} {s : ByteArray}
theorem Fl.own_put2 {w : World} {B g n cap : Nat} {M : List Fl.T} (h : Fl.Own w B (.slice (some ⟨g,0,none⟩) n cap) M) (k : Nat) (hk : k < M.length) (b : Sl) (kp : Int) :
  Fl.Own ((w.setCell ⟨g,k * 3 + 1,none⟩ (.slice b.ao b.n b.cap)).setCell ⟨g,k * 3 + 2,none⟩ (.int .i64 kp)) B (.slice (some ⟨g,0,none⟩) n cap) (M.set k ⟨M[k].name,b,kp⟩) := by
 have h1 := Fl.own_put h k 1 hk (by omega) (.slice b.ao b.n b.cap) ⟨M[k].name,b,M[k].kept⟩ rfl
 have h2 := Fl.own_put h1 k 2 (by rw [List.length_set]; exact hk) (by omega) (.int .i64 kp) ⟨M[k].name,b,kp⟩ (by rw [List.getElem_set_self]; rfl)
 rw [List.set_set] at h2
 exact h2
theorem Dk.cut_done (h : At P w p d v L rs) (hh : has s d.fs = true) {g : Nat} (hv : v.ao = some ⟨g,0,none⟩) (hk : spot s d.fs < rs.length) (m : Nat) (hm : m ≤ (own s d.fs).bs.length) :
  OpE P w p (0,⟨put ⟨s,(own s d.fs).bs.take m,min (own s d.fs).kept m⟩ d.fs,d.off,d.left⟩) (.returned (.int .i64 0)) ((w.setCell ⟨g,spot s d.fs * 3 + 1,none⟩ (.slice rs[spot s d.fs].bytes.ao m rs[spot s d.fs].bytes.cap)).setCell ⟨g,spot s d.fs * 3 + 2,none⟩ (.int .i64 ((min (own s d.fs).kept m : Nat) : Int))) := by
 obtain ⟨_,h1,h2,h3⟩ := row_own h hh
 have hg : (sl v).ownBlock = some g := by rw [sl_eq hv]; rfl
 have k1 : UpdQ (fun b => (sl v).ownBlock = some b) w ((w.setCell ⟨g,spot s d.fs * 3 + 1,none⟩ (.slice rs[spot s d.fs].bytes.ao m rs[spot s d.fs].bytes.cap)).setCell ⟨g,spot s d.fs * 3 + 2,none⟩ (.int .i64 ((min (own s d.fs).kept m : Nat) : Int))) := (UpdQ.set (Q := fun b => (sl v).ownBlock = some b) w hg _ _).trans (UpdQ.set (Q := fun b => (sl v).ownBlock = some b) _ hg _ _)
 have hr := h.rows
 rw [sl_eq hv] at hr
 have h4 := Fl.own_put2 hr (spot s d.fs) hk ⟨rs[spot s d.fs].bytes.ao,m,rs[spot s d.fs].bytes.cap⟩ ((min (own s d.fs).kept m : Nat) : Int)
 rw [← sl_eq hv] at h4
 obtain ⟨o1,o2,_⟩ := By.own_head h3 m hm
 have hl : ((own s d.fs).bs.take m).length = m := by rw [List.length_take]; omega
 exact row_put h hh h4 ⟨h1,rfl,k1.rows o1 fun b e z => (h.pb _ hk b (o2 ▸ e)).2.2 z⟩ (k1.mono fun b z => (h.pv b z).1) (fun _ => k1.mono fun b z => .inl z) (fun _ => .inl o2) (put_ok_own h.ok hh (by rw [hl]; exact Nat.min_le_right _ _) (by rw [hl]; exact hm))
set_option maxHeartbeats 4000000 in
theorem dk_cut (h : At P w p d v L rs) (s : ByteArray) (n : Int) (hn : Fit n) : Calls Tryz.prog 42 #[.pointer (some ⟨p,0,none⟩),.string s,.int .i64 n] w (OpE P w p (cutD d s n)) := by
 have H := Lib.hid h
 have HF := Lib.hid (dk_find h s)
 clear h
 go_enter Tryz.func42,Tryz.ntmps42
 go_wp2_with (go_at_call 70; refine HF.out.mono ?_)
 rintro e W1 ⟨rfl,b1⟩
 have h1 := H.out.below b1
 obtain ⟨c0,c1,c2,c3⟩ := h1.box.cells
 have H1 := Lib.hid h1
 have HB := Lib.hid (UpdQ.of (Q := P) b1)
 have HSp := Lib.hid (dk_spend h1)
 clear HF h1 b1 H
 cases hoff : d.off
 ·
  rw [hoff] at c1
  have no : Hid (¬ d.off = true) := Lib.hid (by rw [hoff]; exact Bool.false_ne_true)
  clear hoff
  cases hh : has s d.fs
  ·
   have HE : Hid (OpE P w p (cutD d s n) (.returned (.int .i64 11)) W1) := Lib.hid (by
    unfold cutD
    rw [if_neg no.out,if_pos hh]
    exact (opE_same H1.out 11).since HB.out)
   clear hh
   go_wp2_with fail
   go_ret
   exact HE.out
  ·
   have HH := Lib.hid hh
   have nh : Hid (¬ has s d.fs = false) := Lib.hid (by rw [hh]; exact fun z => by cases z)
   obtain ⟨hk,r1,r2,r3⟩ := row_own H1.out hh
   have hnn := H1.out.n
   obtain ⟨g,hv,-⟩ := Dk.At.spot H1.out (by omega)
   rw [hv] at c0
   obtain ⟨⟨q0,q1,q2⟩,-,-⟩ := Fl.own_at (sl_eq hv ▸ H1.out.rows : Fl.Own W1 0 (.slice (some ⟨g,0,none⟩) v.n v.cap) rs) (spot s d.fs) hk
   have hbn := Dk.own_n r3
   have hln : spot s d.fs < v.n := by omega
   have HN : Hid (rs[spot s d.fs].bytes.n = (Dk.own s d.fs).bs.length) := Lib.hid hbn.1
   have hbm : rs[spot s d.fs].bytes.n ≤ 9223372036854775807 := by omega
   clear hh r1 r2 r3 hnn hbn
   have HEa : Hid ((n < 0 ∨ (rs[spot s d.fs].bytes.n : Int) < n) → OpE P w p (cutD d s n) (.returned (.int .i64 1)) W1) := Lib.hid fun z => by
    unfold cutD
    rw [if_neg no.out,if_neg nh.out,if_pos (by rw [← HN.out]; exact z)]
    exact (opE_same H1.out 1).since HB.out
   by_cases hneg : n < 0
   ·
    have HE := Lib.hid (HEa.out (.inl hneg))
    generalize rs[spot s d.fs] = r at q0 q1 q2 hbm
    generalize spot s d.fs = sp at q0 q1 q2 hln ⊢
    go_wp2_with fail
    go_ret
    exact HE.out
   ·
    by_cases hbig : (rs[spot s d.fs].bytes.n : Int) < n
    ·
     have HE := Lib.hid (HEa.out (.inr hbig))
     clear HEa HN
     generalize rs[spot s d.fs] = r at q0 q1 q2 hbm hbig
     generalize spot s d.fs = sp at q0 q1 q2 hln ⊢
     go_wp2_with fail
     go_ret
     exact HE.out
    ·
     have HFi : Hid (∀ e W2,SpendE P W1 p d v rs e W2 → (e = .returned (.bool true) ∧ (∃ L',Hid (At P W2 p (spent d) v L' rs)) ∧ d.left ≠ 0 ∧ UpdQ P w W2) ∨ (e = .returned (.bool false) ∧ OpE P w p (cutD d s n) (.returned (.int .i64 18)) W2)) := Lib.hid fun e W2 hE => by
      obtain ⟨hE,u2⟩ := hE
      have k2 := HB.out.trans (u2.mono (R := P) fun b z => z ▸ H1.out.pp)
      rcases hE with ⟨hl,rfl,L',h2⟩ | ⟨hl,rfl,L',h2⟩
      · exact .inl ⟨rfl,⟨L',Lib.hid h2⟩,hl,k2⟩
      ·
       refine .inr ⟨rfl,?_⟩
       unfold cutD
       rw [if_neg no.out,if_neg nh.out,if_neg (by rw [← HN.out]; exact fun z => z.elim hneg hbig),if_pos hl]
       exact (opE_same h2 18).since k2
     obtain ⟨m,rfl⟩ : ∃ m : Nat,n = (m : Int) := ⟨n.toNat,by omega⟩
     have hm : m ≤ (Dk.own s d.fs).bs.length := by have := HN.out; omega
     have HDone : Hid (∀ W2 L',At P W2 p (spent d) v L' rs → d.left ≠ 0 → UpdQ P w W2 → ∃ kp : Nat,rs[spot s d.fs].kept = (kp : Int) ∧ (∀ u,(Instr.slice 59 (.slice rs[spot s d.fs].bytes.ao rs[spot s d.fs].bytes.n rs[spot s d.fs].bytes.cap) none (some (.int .i64 (m : Int))) none).run Tryz.prog u = .ok (.slice rs[spot s d.fs].bytes.ao m rs[spot s d.fs].bytes.cap) u) ∧ OpE P w p (cutD d s m) (.returned (.int .i64 0)) ((W2.setCell ⟨g,spot s d.fs * 3 + 1,none⟩ (.slice rs[spot s d.fs].bytes.ao m rs[spot s d.fs].bytes.cap)).setCell ⟨g,spot s d.fs * 3 + 2,none⟩ (.int .i64 ((min kp m : Nat) : Int)))) := Lib.hid fun W2 L' h2 hl k2 => by
      obtain ⟨hk',r1,r2,r3⟩ := row_own h2 (show has s (spent d).fs = true from HH.out)
      refine ⟨(Dk.own s d.fs).kept,r2,(By.own_head r3 m hm).2.2,?_⟩
      unfold cutD
      rw [if_neg no.out,if_neg nh.out,if_neg (by rw [← HN.out]; exact fun z => z.elim hneg hbig),if_neg hl,Int.toNat_natCast]
      exact (cut_done h2 HH.out hv hk' m hm).since k2
     have HCa : Hid (∀ W2 L',At P W2 p (spent d) v L' rs → d.left ≠ 0 → UpdQ P w W2 → Calls Tryz.prog 89 #[.pointer (some ⟨g,spot s d.fs * 3,none⟩),.int .i64 (m : Int)] W2 (fun e u => e = .returned (.tuple #[]) ∧ OpE P w p (cutD d s m) (.returned (.int .i64 0)) u)) := Lib.hid fun W2 L' h2 hl k2 => by
      obtain ⟨kp,e1,e2,e3⟩ := HDone.out W2 L' h2 hl k2
      refine (fl_shorten W2 g v.n v.cap rs (spot s d.fs) m (sl_eq hv ▸ h2.rows) hk e2 kp e1).mono ?_
      rintro e u ⟨rfl,rfl⟩
      exact ⟨rfl,e3⟩
     have hbig' : ¬ (rs[spot s d.fs].bytes.n : Int) < (m : Int) := hbig
     clear HDone HEa HN hm hbig
     generalize rs[spot s d.fs] = r at q0 q1 q2 hbm hbig'
     generalize spot s d.fs = sp at q0 q1 q2 hln HCa ⊢
     go_wp2_with (go_at_call 69; refine HSp.out.mono ?_)
     rintro e W2 hE
     rcases HFi.out e W2 hE with ⟨rfl,⟨L',h2⟩,hl,k2⟩ | ⟨rfl,hO⟩
     ·
      have HC := Lib.hid (HCa.out W2 L' h2.out hl k2)
      obtain ⟨c0,c1,c2,c3⟩ := h2.out.box.cells
      rw [hv] at c0
      clear hE q0 q1 q2 h2 hl k2 HCa HFi HSp
      go_wp2_with (go_at_call 89; refine HC.out.mono ?_; rintro e W3 ⟨rfl,hO⟩; have HO := Lib.hid hO; clear hO)
      go_ret
      exact HO.out
     ·
      have HO := Lib.hid hO
      clear hO hE
      go_wp2_with fail
      go_ret
      exact HO.out
 ·
  rw [hoff] at c1
  have HE : Hid (OpE P w p (cutD d s n) (.returned (.int .i64 18)) W1) := Lib.hid (by
   unfold cutD
   rw [if_pos hoff]
   exact (opE_same H1.out 18).since HB.out)
  clear hoff
  go_wp2_with fail
  go_ret
  exact HE.out
end
end Go.Proofs.YtlmjeackfepllaaGreatDoor
namespace Go.Proofs.YtlmjeackfepllaaGreatDoor
open Go.RowKit
open Mem Dk
section
variable {P : Nat → Prop} {w u : World} {p : Nat} {d : D} {v : Sl} {L : Int} {rs : List Fl.T} {s t : ByteArray}
theorem Dk.ren_room (h : Ok d) (hh : has s d.fs = true) : total (put ⟨t,(own s d.fs).bs,(own s d.fs).kept⟩ (del s d.fs)) ≤ 4194304 := by
 have h1 := total_put (f := ⟨t,(own s d.fs).bs,(own s d.fs).kept⟩) (del_sorted (s := s) h.sorted)
 have h2 := total_del (spot_lt h.sorted hh)
 rw [← own_at h.sorted hh] at h2
 have h3 := h.room
 simp only at h1
 omega
theorem Dk.dropped (h : At P w p d v L rs) (hh : has s d.fs = true) (hk : spot s d.fs < rs.length) (few : d.fs.length ≤ 1000) {e : Ending} {u : World} (hD : DropE P w p d v L rs s e u) (ht : t.size ≤ 24) :
  e = .returned (.tuple #[]) ∧ UpdQ (fun b => b = p ∨ (sl v).ownBlock = some b) w u ∧ Calls Tryz.prog 71 #[.pointer (some ⟨p,0,none⟩),.agg #[.string rs[spot s d.fs].name,.slice rs[spot s d.fs].bytes.ao rs[spot s d.fs].bytes.n rs[spot s d.fs].bytes.cap,.int .i64 rs[spot s d.fs].kept],.string t] u (fun e' u' => e' = .returned (.tuple #[]) ∧ OpE P w p (0,⟨put ⟨t,(own s d.fs).bs,(own s d.fs).kept⟩ (del s d.fs),d.off,d.left⟩) (.returned (.int .i64 0)) u') := by
 obtain ⟨rfl,v',h3,hv',q3⟩ := hD
 obtain ⟨_,r1,r2,r3⟩ := row_own h hh
 have hpb := h.pb _ hk
 have hlo : Loose P u p v' (rs.take (spot s d.fs) ++ rs.drop (spot s d.fs + 1)) rs[spot s d.fs] (own s d.fs).kept (own s d.fs).bs :=
  ⟨r2,q3.rows r3 fun b e z => z.elim (hpb b e).2.1 (hpb b e).2.2,fun b e => by rw [hv']; exact hpb b e,fun x hx => others h.aps hk hx⟩
 have hdl := del_len h.ok.sorted hh
 have hq : UpdQ P w u := q3.mono fun b z => z.elim (fun z => z ▸ h.pp) fun z => (h.pv b z).1
 refine ⟨rfl,q3,(dk_lay h3 rs[spot s d.fs] _ _ t hlo (own_kept h.ok s) ht (ren_room h.ok hh) (by show (del s d.fs).length < 1000; omega)).mono ?_⟩
 rintro e u' ⟨rfl,h4,q4⟩
 refine ⟨rfl,OpE.since ⟨rfl,h4,q4.mono fun b z => ?_⟩ hq⟩
 rcases z with z | z
 · exact z ▸ h.pp
 · exact (h.pv b (hv' ▸ z)).1
set_option maxHeartbeats 4000000 in
theorem dk_rename (h : At P w p d v L rs) (s t : ByteArray) (ht : t.size ≤ 9223372036854775807) : Calls Tryz.prog 120 #[.pointer (some ⟨p,0,none⟩),.string s,.string t] w (OpE P w p (renD d s t)) := by
 have H := Lib.hid h
 have HF := Lib.hid (dk_find h s)
 have HNm := Lib.hid fun W => dk_named t W ht
 clear h
 go_enter Tryz.func120,Tryz.ntmps120
 go_wp2_with (go_at_call 70; refine HF.out.mono ?_)
 rintro e W1 ⟨rfl,b1⟩
 have h1 := H.out.below b1
 obtain ⟨c0,c1,c2,c3⟩ := h1.box.cells
 have H1 := Lib.hid h1
 have HB := Lib.hid (UpdQ.of (Q := P) b1)
 have HSp := Lib.hid (dk_spend h1)
 clear HF h1 b1 H
 cases hoff : d.off
 ·
  rw [hoff] at c1
  have no : Hid (¬ d.off = true) := Lib.hid (by rw [hoff]; exact Bool.false_ne_true)
  clear hoff
  cases hno : nameOk t
  ·
   have HE : Hid (OpE P w p (renD d s t) (.returned (.int .i64 19)) W1) := Lib.hid (by
    unfold renD
    rw [if_neg no.out,if_pos hno]
    exact (opE_same H1.out 19).since HB.out)
   rw [hno] at HNm
   clear hno
   generalize spot s d.fs = sp
   generalize has s d.fs = hb
   go_wp2_with (go_at_call 67; refine (HNm.out _).mono ?_; rintro e u ⟨rfl,rfl⟩)
   go_ret
   exact HE.out
  ·
   have nn : Hid (¬ nameOk t = false) := Lib.hid (by rw [hno]; exact fun z => by cases z)
   have HTs := Lib.hid (name_size hno)
   rw [hno] at HNm
   clear hno
   cases hh : has s d.fs
   ·
    have HE : Hid (OpE P w p (renD d s t) (.returned (.int .i64 11)) W1) := Lib.hid (by
     unfold renD
     rw [if_neg no.out,if_neg nn.out,if_pos hh]
     exact (opE_same H1.out 11).since HB.out)
    clear hh
    generalize spot s d.fs = sp
    go_wp2_with (go_at_call 67; refine (HNm.out _).mono ?_; rintro e u ⟨rfl,rfl⟩)
    go_ret
    exact HE.out
   ·
    have HH := Lib.hid hh
    have nh : Hid (¬ has s d.fs = false) := Lib.hid (by rw [hh]; exact fun z => by cases z)
    clear hh
    go_wp2_with (first | (go_at_call 67; refine (HNm.out _).mono ?_; rintro e u ⟨rfl,rfl⟩) | (go_at_call 69; refine HSp.out.mono ?_))
    rintro e W2 ⟨hE,u2⟩
    have HB2 := Lib.hid (HB.out.trans (u2.mono (R := P) fun b z => z ▸ H1.out.pp))
    clear u2 c0 c1 c2 c3
    rcases hE with ⟨hl,rfl,L',h2⟩ | ⟨hl,rfl,L',h2⟩
    ·
     obtain ⟨hk,-⟩ := row_own h2 (show has s (spent d).fs = true from HH.out)
     have hk' : spot s d.fs < rs.length := hk
     have hn := h2.n
     obtain ⟨g,hv,hvg⟩ := Dk.At.spot h2 (by omega)
     obtain ⟨⟨q0,q1,q2⟩,-,-⟩ := Fl.own_at (sl_eq hv ▸ h2.rows : Fl.Own W2 0 (.slice (some ⟨g,0,none⟩) v.n v.cap) rs) (spot s d.fs) hk'
     obtain ⟨c0,c1,c2,c3⟩ := h2.box.cells
     rw [hv] at c0
     have hsn : spot s d.fs < v.n := by omega
     obtain ⟨W3,hW3⟩ : ∃ W3,W2.alloc (.cells #[.string rs[spot s d.fs].name,.slice rs[spot s d.fs].bytes.ao rs[spot s d.fs].bytes.n rs[spot s d.fs].bytes.cap,.int .i64 rs[spot s d.fs].kept] 90) = W3 := ⟨_,rfl⟩
     have b3 : Below W2.heap.size W2 W3 := hW3 ▸ (Below.refl _ _).alloc (Nat.le_refl _) _
     have x3 : W3.heap[W2.heap.size]? = some (Fl.block rs[spot s d.fs]) := hW3 ▸ heap_alloc_new W2 _
     have l3 : W2.heap.size < W3.heap.size := (Array.getElem?_eq_some_iff.1 x3).1
     have h3 := h2.below b3
     have HD := Lib.hid (dk_drop h3 s (show has s (spent d).fs = true from HH.out))
     have HD' : Hid (Calls Tryz.prog 84 #[.pointer (some ⟨p,0,none⟩),.int .i64 (spot s d.fs : Nat)] W3 (DropE P W3 p (spent d) v L' rs s)) := HD
     have HE : Hid (∀ e u,DropE P W3 p (spent d) v L' rs s e u → e = .returned (.tuple #[]) ∧ Fl.C u W2.heap.size rs[spot s d.fs] ∧ Calls Tryz.prog 71 #[.pointer (some ⟨p,0,none⟩),.agg #[.string rs[spot s d.fs].name,.slice rs[spot s d.fs].bytes.ao rs[spot s d.fs].bytes.n rs[spot s d.fs].bytes.cap,.int .i64 rs[spot s d.fs].kept],.string t] u (fun e' u' => e' = .returned (.tuple #[]) ∧ OpE P w p (renD d s t) (.returned (.int .i64 0)) u')) := Lib.hid fun e u hD => by
      obtain ⟨e1,q3,hC⟩ := dropped h3 (show has s (spent d).fs = true from HH.out) hk h3.few hD HTs.out
      refine ⟨e1,Fl.block_cells ((q3.block _ l3 fun z => ?_).trans x3),hC.mono ?_⟩
      ·
       rcases z with z | z
       ·
        have := h2.box.lt
        omega
       ·
        have := (World.ownsRow.lt h2.rows _ z).2
        omega
      ·
       rintro e' u' ⟨rfl,hO⟩
       refine ⟨rfl,?_⟩
       unfold renD
       rw [if_neg no.out,if_neg nn.out,if_neg nh.out,if_neg hl]
       exact (hO.since (UpdQ.of b3)).since HB2.out
     clear h2 h3 hn hv hvg HD x3 l3 hl b3
     generalize rs[spot s d.fs] = r at q0 q1 q2 HE hW3
     generalize spot s d.fs = sp at q0 q1 q2 HD' hsn ⊢
     go_wp2_with (go_at_call 84; refine HD'.out.mono ?_)
     rintro e W4 hD
     obtain ⟨rfl,hC,hL⟩ := HE.out e W4 hD
     have HLy := Lib.hid hL
     unfold Fl.C at hC
     obtain ⟨a0,a1,a2⟩ := hC
     clear HE hD hL hW3 HD' q0 q1 q2 c0 c1 c2 c3
     go_wp2_with (go_at_call 71; refine HLy.out.mono ?_; rintro e W5 ⟨rfl,hO⟩; have HO := Lib.hid hO; clear hO)
     go_ret
     exact HO.out
    ·
     have HE : Hid (OpE P w p (renD d s t) (.returned (.int .i64 18)) W2) := Lib.hid (by
      unfold renD
      rw [if_neg no.out,if_neg nn.out,if_neg nh.out,if_pos hl]
      exact (opE_same h2 18).since HB2.out)
     clear h2 hl
     go_wp2_with fail
     go_ret
     exact HE.out
 ·
  rw [hoff] at c1
  have HE : Hid (OpE P w p (renD d s t) (.returned (.int .i64 18)) W1) := Lib.hid (by
   unfold renD
   rw [if_pos hoff]
   exact (opE_same H1.out 18).since HB.out)
  clear hoff
  go_wp2_with fail
  go_ret
  exact HE.out
end
end Go.Proofs.YtlmjeackfepllaaGreatDoor
namespace Go.Proofs.YtlmjeackfepllaaGreatDoor
open Go.RowKit
open Mem Dk
theorem By.own_sl {w : World} {x : Value} {B : Nat} {M : List UInt8} (h : By.Own w B x M) : ∃ s : Sl,x = sl s := by
 rcases h.2 with ⟨e,_⟩ | ⟨g,cap,cur,e,_⟩
 · exact ⟨⟨none,0,0⟩,e⟩
 · exact ⟨⟨_,_,_⟩,e⟩
theorem By.append_run (w : World) (s : Sl) (xs : List UInt8) (h : By.Own w 0 (sl s) xs) (ao : Option Addr) (n cap : Nat) (zs : List UInt8) (hL : By.Ls w ao n cap zs) (hl : xs.length + n ≤ 140737488355328) (ty : TypeId) :
  ∃ (x : Sl) (W : World),(Builtin.append_ #[59,59] ty #[.slice s.ao s.n s.cap,.slice ao n cap]).run Tryz.prog w = .ok (.slice x.ao x.n x.cap) W ∧ By.Own W 0 (sl x) (xs ++ zs) ∧ w.grownBy W (sl s).ownBlock ∧ ((sl x).ownBlock = (sl s).ownBlock ∨ (sl x).ownBlock = some w.heap.size) := by
 obtain ⟨i0,hi,hz0,hz1,hz2⟩ := info_parts By.info
 have hmx : maxLen = 9223372036854775807 := rfl
 have hn := hL.len
 cases ao with
 | none =>
  obtain rfl : cap = 0 := hL.nil rfl
  rcases hL.seg with e | ⟨b,off,e,_⟩
  ·
   obtain rfl : n = 0 := by rw [hn,e]; rfl
   have hrun := run_append_owned_none (P := Tryz.prog) (w := w) 0 59 ty 5 i0 1 Tryz.underlying59 hi (sl s) _ _ h
   exact ⟨s,w,hrun,by rw [e,List.append_nil]; exact h,⟨rfl,rfl,rfl,Nat.le_refl _,fun _ _ _ => rfl⟩,.inl rfl⟩
  · cases e
 | some ad =>
  obtain ⟨v',w',hr,h2,h3,_,h5⟩ := run_append_own_at (P := Tryz.prog) w 0 59 ty 5 i0 (.int .u8 0) 1 1 Tryz.underlying59 hi hz0 hz1 hz2 rfl (by omega) (sl s) xs.length (xs.map bv) h ad n cap (zs.map bv) (by rw [List.length_map,hn,Nat.mul_one]) (by
   rcases hL.seg with e | ⟨b,off,e,hc⟩
   ·
    rw [e]
    intro j u hu
    simp at hu
   ·
    cases e
    exact fun j u hu => By.news_of hc j u hu) (By.one_cell zs) (by omega) (by omega) (Nat.zero_le _)
  have h2' : By.Own w' 0 v' (xs ++ zs) := by
   unfold By.Own
   rw [List.map_append,List.length_append,← hn]
   exact h2
  obtain ⟨x,rfl⟩ := By.own_sl h2'
  exact ⟨x,w',hr,h2',h3,h5⟩
theorem By.Ls.keep {Q : Nat → Prop} {w u : World} {ao : Option Addr} {n cap : Nat} {zs : List UInt8} (h : By.Ls w ao n cap zs) (k : UpdQ Q w u) (hQ : zs ≠ [] → ∀ ad,ao = some ad → ¬ Q ad.block) : By.Ls u ao n cap zs := by
 refine ⟨h.len,h.fits,h.reach,h.nil,?_⟩
 rcases h.seg with e | ⟨b,off,e,hc⟩
 · exact .inl e
 ·
  refine .inr ⟨b,off,e,fun i hi => ?_⟩
  have h1 := hc i hi
  have h2 := k.block b (cell_lt h1) (hQ (List.ne_nil_of_length_pos (by omega)) _ e)
  rw [← h1]
  unfold World.cell?
  simp only
  rw [h2]
section
variable {P : Nat → Prop} {w u : World} {p : Nat} {d : D} {v : Sl} {L : Int} {rs : List Fl.T} {s : ByteArray}
theorem Dk.put_form {f : F} {l : List F} (hs : Sorted l) : ∃ X,X.length ≤ l.length ∧ ∀ g : F,g.name = f.name → put g l = l.take (Dk.spot f.name l) ++ g :: X := by
 cases h : has f.name l
 · exact ⟨l.drop (Dk.spot f.name l),by rw [List.length_drop]; omega,fun g e => by rw [put_ins (f := g) (by rw [e]; exact h),e]; rfl⟩
 · exact ⟨l.drop (Dk.spot f.name l + 1),by rw [List.length_drop]; omega,fun g e => by rw [put_set (f := g) hs (by rw [e]; exact h),e]; rfl⟩
theorem Dk.put_spot {f : F} {l : List F} (hs : Sorted l) : Dk.spot f.name (put f l) = Dk.spot f.name l ∧ has f.name (put f l) = true ∧ own f.name (put f l) = f := by
 obtain ⟨X,_,hX⟩ := put_form (f := f) hs
 have hl : (l.take (Dk.spot f.name l)).length = Dk.spot f.name l := by rw [List.length_take,Nat.min_eq_left (spot_le _ _)]
 have hlt : Dk.spot f.name l < (put f l).length := by
  rw [hX f rfl,List.length_append,List.length_cons,hl]
  omega
 have he : (put f l)[Dk.spot f.name l] = f := by
  simp only [hX f rfl]
  rw [List.getElem_append_right (by omega)]
  simp only [hl,Nat.sub_self,List.getElem_cons_zero]
 have h1 := one_name (s := f.name) (put_sorted (f := f) hs) hlt (by rw [he])
 have h2 : has f.name (put f l) = true := has_iff.2 ⟨_,hlt,by rw [he]⟩
 refine ⟨h1.symm,h2,?_⟩
 rw [own_at (put_sorted hs) h2]
 simp only [← h1]
 exact he
theorem Dk.put_put {f g : F} {l : List F} (hs : Sorted l) (e : g.name = f.name) : put g (put f l) = put g l := by
 obtain ⟨X,_,hX⟩ := put_form (f := f) hs
 obtain ⟨h1,h2,_⟩ := put_spot (f := f) hs
 have hl : (l.take (Dk.spot f.name l)).length = Dk.spot f.name l := by rw [List.length_take,Nat.min_eq_left (spot_le _ _)]
 rw [hX g e,put_at (f := g) (by rw [e]; exact h2),e,h1,hX f rfl,List.set_append_right _ _ (by omega),hl,Nat.sub_self,List.set_cons_zero]
theorem Dk.app_done (h : At P w p d v L rs) (hh : has s d.fs = true) {g : Nat} (hv : v.ao = some ⟨g,0,none⟩) (hk : Dk.spot s d.fs < rs.length) {zs : List UInt8} {x : Sl} {W : World} (o : By.Own W 0 (sl x) ((own s d.fs).bs ++ zs)) (gr : w.grownBy W (sl rs[Dk.spot s d.fs].bytes).ownBlock) (hx : (sl x).ownBlock = (sl rs[Dk.spot s d.fs].bytes).ownBlock ∨ (sl x).ownBlock = some w.heap.size) (hr : total d.fs + zs.length ≤ 4194304) :
  (W.frozen? ⟨g,Dk.spot s d.fs * 3 + 1,none⟩ = false ∧ (∃ c,W.cell? ⟨g,Dk.spot s d.fs * 3 + 1,none⟩ = some c) ∧ W.cell? ⟨p,0,none⟩ = some (.slice (some ⟨g,0,none⟩) v.n v.cap)) ∧ OpE P w p (0,⟨put ⟨s,(own s d.fs).bs ++ zs,(own s d.fs).kept⟩ d.fs,d.off,d.left⟩) (.returned (.int .i64 0)) (W.setCell ⟨g,Dk.spot s d.fs * 3 + 1,none⟩ (.slice x.ao x.n x.cap)) := by
 obtain ⟨_,h1,h2,h3⟩ := row_own h hh
 have hg : (sl v).ownBlock = some g := by rw [sl_eq hv]; rfl
 have hpb := h.pb _ hk
 have q1 : UpdQ (fun b => (sl rs[Dk.spot s d.fs].bytes).ownBlock = some b) w W := UpdQ.grown gr
 let Q : Nat → Prop := fun b => (sl v).ownBlock = some b ∨ (sl rs[Dk.spot s d.fs].bytes).ownBlock = some b
 have k2 : UpdQ (fun b => (sl v).ownBlock = some b) W (W.setCell ⟨g,Dk.spot s d.fs * 3 + 1,none⟩ (.slice x.ao x.n x.cap)) := UpdQ.set (Q := fun b => (sl v).ownBlock = some b) W hg _ _
 have k3 : UpdQ Q w (W.setCell ⟨g,Dk.spot s d.fs * 3 + 1,none⟩ (.slice x.ao x.n x.cap)) := (q1.mono fun b z => .inr z).trans (k2.mono fun b z => .inl z)
 have hr1 : Fl.Own W 0 (sl v) rs := q1.rows h.rows fun b e z => (hpb b z).2.2 e
 rw [sl_eq hv] at hr1
 obtain ⟨⟨c0,c1,c2⟩,cf,_⟩ := Fl.own_at hr1 _ hk
 have hbx := h.box.keep (q1.block p h.box.lt fun z => (hpb p z).2.1 rfl)
 have hc := hbx.cells.1
 rw [hv] at hc
 have h4 := Fl.own_put hr1 (Dk.spot s d.fs) 1 hk (by omega) (.slice x.ao x.n x.cap) ⟨rs[Dk.spot s d.fs].name,x,rs[Dk.spot s d.fs].kept⟩ rfl
 rw [← sl_eq hv] at h4
 have hn : s.size ≤ 24 := by
  have := h.ok.names _ (own_mem h.ok.sorted hh)
  rw [own_name h.ok.sorted] at this
  exact this
 have ht := total_put (f := ⟨s,(own s d.fs).bs ++ zs,(own s d.fs).kept⟩) h.ok.sorted
 simp only [List.length_append] at ht
 have hkp := own_kept h.ok s
 refine ⟨⟨cf _,⟨_,c1⟩,hc⟩,row_put h hh h4 ⟨h1,h2,k2.rows o fun b e z => ?_⟩ (k3.mono fun b z => z.elim (fun z => (h.pv b z).1) fun z => (hpb b z).1) (fun _ => k3) (fun _ => hx.imp id fun e => ⟨_,e,Nat.le_refl _⟩) (put_ok h.ok (by simp only [List.length_append]; omega) hn (by omega))⟩
 rcases hx with hx | hx
 · exact (hpb b (hx ▸ e)).2.2 z
 ·
  rw [hx] at e
  obtain rfl : w.heap.size = b := by injection e
  have := (World.ownsRow.lt h.rows _ z).2
  omega
theorem Dk.loose_zero (P : Nat → Prop) (w : World) (p : Nat) (v : Sl) (rs : List Fl.T) : Loose P w p v rs Fl.zero 0 [] := ⟨rfl,By.own_nil _ _,fun b e => (by cases e),fun x hx g e => (by cases e)⟩
end
end Go.Proofs.YtlmjeackfepllaaGreatDoor
namespace Go.Proofs.YtlmjeackfepllaaGreatDoor
open Go.RowKit
open Mem Dk
theorem UpdQ.newer {P : Nat → Prop} {w u u' x : World} (h : UpdQ P w u) (hx : w.heap.size ≤ x.heap.size) (k : UpdQ (nw P x) u u') : UpdQ P w u' :=
 ⟨Nat.le_trans h.size k.size,fun b hb hq => (k.block b (Nat.lt_of_lt_of_le hb h.size) fun z => z.elim hq fun z => by omega).trans (h.block b hb hq),fun w0 a c => k.below w0 (h.below w0 a c) fun b z => z.elim (c b) fun z => Nat.le_trans a.size (Nat.le_trans hx z)⟩
section
variable {P : Nat → Prop} {w u : World} {p : Nat} {d : D} {v : Sl} {L : Int} {rs : List Fl.T} {s : ByteArray}
theorem Dk.OpE.newer {x : World} {y : Int × D} {e : Ending} {w' : World} (h : OpE (nw P x) u p y e w') (hx : w.heap.size ≤ x.heap.size) (k : UpdQ P w u) : OpE P w p y e w' :=
 ⟨h.1,h.2.1.mono fun b z => z.elim (fun z => z.imp id fun z => Nat.le_trans hx z) fun z => .inr (Nat.le_trans k.size z),k.newer hx h.2.2⟩
theorem Dk.app_step (h : At P w p d v L rs) (hh : has s d.fs = true) {ao : Option Addr} {n cap : Nat} {zs : List UInt8} (hL : By.Ls w ao n cap zs) (hr : total d.fs + zs.length ≤ 4194304) :
  ∃ (g nn cc : Nat) (r : Fl.T) (x : Sl) (W : World),w.cell? ⟨p,0,none⟩ = some (.slice (some ⟨g,0,none⟩) nn cc) ∧ Dk.spot s d.fs < nn ∧ Fl.At w g (Dk.spot s d.fs * 3) r ∧ (Builtin.append_ #[59,59] 59 #[.slice r.bytes.ao r.bytes.n r.bytes.cap,.slice ao n cap]).run Tryz.prog w.drew = .ok (.slice x.ao x.n x.cap) W ∧
   (W.frozen? ⟨g,Dk.spot s d.fs * 3 + 1,none⟩ = false ∧ (∃ c,W.cell? ⟨g,Dk.spot s d.fs * 3 + 1,none⟩ = some c) ∧ W.cell? ⟨p,0,none⟩ = some (.slice (some ⟨g,0,none⟩) nn cc)) ∧ OpE P w p (0,⟨put ⟨s,(own s d.fs).bs ++ zs,(own s d.fs).kept⟩ d.fs,d.off,d.left⟩) (.returned (.int .i64 0)) (W.setCell ⟨g,Dk.spot s d.fs * 3 + 1,none⟩ (.slice x.ao x.n x.cap)) := by
 obtain ⟨hk,-,-,r3⟩ := row_own h hh
 have hn := h.n
 obtain ⟨g,hv,-⟩ := Dk.At.spot h (by omega)
 have hc := h.box.cells.1
 rw [hv] at hc
 have hd : Below w.heap.size w w.drew := (Below.refl _ _).drew
 have hroom := own_room h.ok s
 have hlen := hL.len
 obtain ⟨x,W,a1,a2,a3,a4⟩ := By.append_run w.drew rs[Dk.spot s d.fs].bytes _ (By.own_below r3 hd) ao n cap zs (hL.below hd) (by omega) 59
 obtain ⟨b1,b2⟩ := app_done (h.below hd) hh hv hk a2 a3 a4 hr
 exact ⟨g,v.n,v.cap,rs[Dk.spot s d.fs],x,W,hc,by omega,(Fl.own_at (sl_eq hv ▸ h.rows : Fl.Own w 0 (.slice (some ⟨g,0,none⟩) v.n v.cap) rs) _ hk).1,a1,b1,b2.since (UpdQ.of hd)⟩
set_option maxHeartbeats 4000000 in
theorem dk_append (h : At P w p d v L rs) (s : ByteArray) (hs : s.size ≤ 9223372036854775807) (ao : Option Addr) (n cap : Nat) (zs : List UInt8) (hL : By.Ls w ao n cap zs) (hap : zs ≠ [] → ∀ ad,ao = some ad → ¬ P ad.block) (few : d.fs.length < 1000) :
  Calls Tryz.prog 30 #[.pointer (some ⟨p,0,none⟩),.string s,.slice ao n cap] w (OpE P w p (appD d s zs)) := by
 have H := Lib.hid h
 have HL := Lib.hid hL
 have HLen := Lib.hid hL.len
 have hcap := hL.reach
 have hfit := hL.fits
 have HNm := Lib.hid fun W => dk_named s W hs
 have HT := Lib.hid (dk_total h)
 obtain ⟨c0,c1,c2,c3⟩ := h.box.cells
 have hroom := h.ok.room
 clear h hL
 cases hoff : d.off
 ·
  rw [hoff] at c1
  have no : Hid (¬ d.off = true) := Lib.hid (by rw [hoff]; exact Bool.false_ne_true)
  clear hoff
  cases hno : nameOk s
  ·
   have HE : Hid (OpE P w p (appD d s zs) (.returned (.int .i64 19)) w) := Lib.hid (by
    unfold appD
    rw [if_neg no.out,if_pos hno]
    exact opE_same H.out 19)
   rw [hno] at HNm
   clear hno
   go_enter Tryz.func30,Tryz.ntmps30
   go_wp2_with (go_at_call 67; refine (HNm.out _).mono ?_; rintro e u ⟨rfl,hu⟩; rw [hu]; clear hu u)
   go_ret
   exact HE.out
  ·
   have nn : Hid (¬ nameOk s = false) := Lib.hid (by rw [hno]; exact fun z => by cases z)
   have HTs := Lib.hid (name_size hno)
   rw [hno] at HNm
   clear hno
   by_cases hfull : 4194304 < total d.fs + n
   ·
    have HE : Hid (∀ W,Below w.heap.size w W → OpE P w p (appD d s zs) (.returned (.int .i64 14)) W) := Lib.hid fun W hW => by
     unfold appD
     rw [if_neg no.out,if_neg nn.out,if_pos (by rw [← HLen.out]; exact hfull)]
     exact (opE_same (H.out.below hW) 14).since (UpdQ.of hW)
    generalize total d.fs = tt at HT hfull hroom
    go_enter Tryz.func30,Tryz.ntmps30
    go_wp2_with (first | (go_at_call 67; refine (HNm.out _).mono ?_; rintro e u ⟨rfl,hu⟩; rw [hu]; clear hu u) | (go_at_call 68; refine HT.out.mono ?_; rintro e W1 ⟨rfl,b1⟩; have HO := Lib.hid (HE.out W1 b1); clear b1))
    go_ret
    exact HO.out
   ·
    have nf : Hid (¬ 4194304 < total d.fs + zs.length) := Lib.hid (by rw [← HLen.out]; exact hfull)
    have HSp : Hid (∀ W1,Below w.heap.size w W1 → Calls Tryz.prog 69 #[.pointer (some ⟨p,0,none⟩)] W1 (fun e W2 => (e = .returned (.bool false) ∧ OpE P w p (appD d s zs) (.returned (.int .i64 18)) W2) ∨ (e = .returned (.bool true) ∧ d.left ≠ 0 ∧ UpdQ P w W2 ∧ ∃ L',At P W2 p (spent d) v L' rs))) := Lib.hid fun W1 b1 => by
     have h1 := H.out.below b1
     refine (dk_spend h1).mono ?_
     rintro e W2 ⟨hE,u2⟩
     have k2 := (UpdQ.of (Q := P) b1).trans (u2.mono (R := P) fun b z => z ▸ h1.pp)
     rcases hE with ⟨hl,rfl,L',h2⟩ | ⟨hl,rfl,L',h2⟩
     · exact .inr ⟨rfl,hl,k2,L',h2⟩
     ·
      refine .inl ⟨rfl,?_⟩
      unfold appD
      rw [if_neg no.out,if_neg nn.out,if_neg nf.out,if_pos hl]
      exact (opE_same h2 18).since k2
    have HEnd : Hid (∀ o,d.left ≠ 0 → o = (0,with' d (put ⟨s,(Dk.own s d.fs).bs ++ zs,(Dk.own s d.fs).kept⟩ d.fs)) → appD d s zs = o) := Lib.hid fun o hl e => by
     unfold appD
     rw [if_neg no.out,if_neg nn.out,if_neg nf.out,if_neg hl,e]
    obtain ⟨tt,htt⟩ : ∃ tt,total d.fs = tt := ⟨_,rfl⟩
    rw [htt] at HT hfull hroom
    have hft : (n : Int) ≤ 4194304 - (tt : Int) := by omega
    clear htt
    go_enter Tryz.func30,Tryz.ntmps30
    go_wp2_with (first | (go_at_call 67; refine (HNm.out _).mono ?_; rintro e u ⟨rfl,hu⟩; rw [hu]; clear hu u) | (go_at_call 68; refine HT.out.mono ?_; rintro e W1 ⟨rfl,b1⟩; have HO := Lib.hid (HSp.out W1 b1); clear b1) | (go_at_call 69; refine HO.out.mono ?_))
    rintro e W2 (⟨rfl,hE⟩ | ⟨rfl,hl,k2,L',h2⟩)
    ·
     have HE := Lib.hid hE
     clear hE
     go_wp2_with fail
     go_ret
     exact HE.out
    ·
     have HF := Lib.hid (dk_find h2 s)
     have HF' : Hid (Calls Tryz.prog 70 #[.pointer (some ⟨p,0,none⟩),.string s] W2 fun e w' => e = .returned (.tuple #[.int .i64 (Dk.spot s d.fs : Nat),.bool (has s d.fs)]) ∧ Below W2.heap.size W2 w') := HF
     have H2 := Lib.hid h2
     have HK2 := Lib.hid k2
     have HLf := Lib.hid hl
     clear h2 k2 hl HF c0 c1 c2 c3 HO HSp HT
     go_wp2_with (go_at_call 70; refine HF'.out.mono ?_)
     rintro e W3 ⟨rfl,b3⟩
     have h3 := H2.out.below b3
     have k3 := HK2.out.belowT b3
     have hroom2 : total d.fs + zs.length ≤ 4194304 := by have := nf.out; omega
     cases hh : has s d.fs
     ·
      have HLy := Lib.hid (dk_lay h3 Fl.zero 0 [] s (Dk.loose_zero P W3 p v rs) (Nat.le_refl _) HTs.out (by
       have ht := total_put (f := ⟨s,[],0⟩) h3.ok.sorted
       have hr3 := h3.ok.room
       simp only [List.length_nil] at ht
       omega) (show d.fs.length < 1000 from few))
      have HFi : Hid (∀ e W4,Dk.LayE P W3 p (spent d) v ⟨s,[],0⟩ e W4 → e = .returned (.tuple #[]) ∧ ∃ (g nn cc : Nat) (r : Fl.T) (x : Sl) (W : World),W4.cell? ⟨p,0,none⟩ = some (.slice (some ⟨g,0,none⟩) nn cc) ∧ Dk.spot s d.fs < nn ∧ Fl.At W4 g (Dk.spot s d.fs * 3) r ∧ (Builtin.append_ #[59,59] 59 #[.slice r.bytes.ao r.bytes.n r.bytes.cap,.slice ao n cap]).run Tryz.prog W4.drew = .ok (.slice x.ao x.n x.cap) W ∧
        (W.frozen? ⟨g,Dk.spot s d.fs * 3 + 1,none⟩ = false ∧ (∃ c,W.cell? ⟨g,Dk.spot s d.fs * 3 + 1,none⟩ = some c) ∧ W.cell? ⟨p,0,none⟩ = some (.slice (some ⟨g,0,none⟩) nn cc)) ∧ OpE P w p (appD d s zs) (.returned (.int .i64 0)) (W.setCell ⟨g,Dk.spot s d.fs * 3 + 1,none⟩ (.slice x.ao x.n x.cap))) := Lib.hid fun e W4 hE => by
       obtain ⟨rfl,⟨v4,L4,rs4,h4⟩,q4⟩ := hE
       have k34 : UpdQ P W3 W4 := q4.mono fun b z => z.elim (fun z => z ▸ h3.pp) fun z => (h3.pv b z).1
       have k4 := k3.trans k34
       obtain ⟨s1,s2,s3⟩ := put_spot (f := ⟨s,[],0⟩) h3.ok.sorted
       have ht := total_put (f := ⟨s,[],0⟩) h3.ok.sorted
       simp only [List.length_nil] at ht s1 s2 s3
       have ht' : total (put ⟨s,[],0⟩ d.fs) + zs.length ≤ 4194304 := by
        have e1 : total (put ⟨s,[],0⟩ d.fs) + (Dk.own s d.fs).bs.length = total d.fs + 0 := ht
        omega
       obtain ⟨g,nn',cc,r,x,W,a1,a2,a3,a4,a5,a6⟩ := app_step (s := s) h4 s2 (HL.out.keep k4 hap) ht'
       have s1' : Dk.spot s (put ⟨s,[],0⟩ d.fs) = Dk.spot s d.fs := s1
       simp only at a2 a3 a5 a6
       change Dk.spot s (put ⟨s,[],0⟩ d.fs) < nn' at a2
       rw [show (spent d).fs = d.fs from rfl,s1'] at a3 a5 a6
       rw [s1'] at a2
       refine ⟨rfl,g,nn',cc,r,x,W,a1,a2,a3,a4,a5,?_⟩
       have hp := put_put (f := ⟨s,[],0⟩) (g := ⟨s,(Dk.own s (put ⟨s,[],0⟩ d.fs)).bs ++ zs,(Dk.own s (put ⟨s,[],0⟩ d.fs)).kept⟩) h3.ok.sorted rfl
       have hp' : put ⟨s,(Dk.own s (put ⟨s,[],0⟩ d.fs)).bs ++ zs,(Dk.own s (put ⟨s,[],0⟩ d.fs)).kept⟩ (put ⟨s,[],0⟩ d.fs) = put ⟨s,(Dk.own s d.fs).bs ++ zs,(Dk.own s d.fs).kept⟩ d.fs := by
        have e3 : Dk.own s (put ⟨s,[],0⟩ d.fs) = ⟨s,[],0⟩ := s3
        have hp2 := hp
        rw [show (spent d).fs = d.fs from rfl] at hp2
        rw [hp2,e3,own_no hh]
       rw [HEnd.out _ HLf.out rfl]
       have a6' := a6.newer k3.size k4
       rw [hp'] at a6'
       exact a6'
      clear h3 k3 b3 hh H2 HK2
      generalize Dk.spot s d.fs = sp at HFi ⊢
      go_wp2_with (go_at_call 71; refine HLy.out.mono ?_)
      rintro e W4 hE
      obtain ⟨rfl,g,nn',cc,r,x,W,a1,a2,a3,a4,⟨a5,⟨c,a6⟩,a7⟩,a8⟩ := HFi.out e W4 hE
      have HO := Lib.hid a8
      obtain ⟨q0,q1,q2⟩ := a3
      clear hE a8 HFi HLy
      go_wp2_with fail
      go_region_law (refine step_append_run rfl (.tmp 53) (.tmp 54) 59 59 rfl _ _ (by simp [Act.eval]) (by simp [Act.eval]) _ _ a4 ?_)
      all_goals go_wp2_with fail
      all_goals go_ret
      all_goals exact HO.out
     ·
      obtain ⟨g,nn',cc,r,x,W,a1,a2,a3,a4,⟨a5,⟨c,a6⟩,a7⟩,a8⟩ := app_step h3 (show has s (spent d).fs = true from hh) (HL.out.keep k3 hap) hroom2
      have HO : Hid (OpE P w p (appD d s zs) (.returned (.int .i64 0)) (W.setCell ⟨g,Dk.spot s d.fs * 3 + 1,none⟩ (.slice x.ao x.n x.cap))) := Lib.hid (by
       rw [HEnd.out _ HLf.out rfl]
       exact a8.since k3)
      obtain ⟨q0,q1,q2⟩ := a3
      change Dk.spot s d.fs < nn' at a2
      change W3.cell? ⟨g,Dk.spot s d.fs * 3,none⟩ = _ at q0
      change W3.cell? ⟨g,Dk.spot s d.fs * 3 + 1,none⟩ = _ at q1
      change W3.cell? ⟨g,Dk.spot s d.fs * 3 + 2,none⟩ = _ at q2
      change W.frozen? ⟨g,Dk.spot s d.fs * 3 + 1,none⟩ = _ at a5
      change W.cell? ⟨g,Dk.spot s d.fs * 3 + 1,none⟩ = _ at a6
      generalize Dk.spot s d.fs = sp at a2 q0 q1 q2 a5 a6 HO ⊢
      clear a8 h3 k3 b3 hh H2 HK2
      go_wp2_with fail
      go_region_law (refine step_append_run rfl (.tmp 53) (.tmp 54) 59 59 rfl _ _ (by simp [Act.eval]) (by simp [Act.eval]) _ _ a4 ?_)
      all_goals go_wp2_with fail
      all_goals go_ret
      all_goals exact HO.out
 ·
  rw [hoff] at c1
  have HE : Hid (OpE P w p (appD d s zs) (.returned (.int .i64 18)) w) := Lib.hid (by
   unfold appD
   rw [if_pos hoff]
   exact opE_same H.out 18)
  clear hoff
  go_enter Tryz.func30,Tryz.ntmps30
  go_wp2_with fail
  go_ret
  exact HE.out
end
end Go.Proofs.YtlmjeackfepllaaGreatDoor
namespace Go.Proofs.YtlmjeackfepllaaGreatDoor
open Go.RowKit
open Mem Dk
section
variable {P : Nat → Prop} {w u : World} {p : Nat} {d : D} {v : Sl} {L : Int} {rs : List Fl.T} {s : ByteArray}
def Dk.ReadE (w : World) (d : D) (s : ByteArray) (e : Ending) (w' : World) : Prop :=
 Below w.heap.size w w' ∧ ((has s d.fs = false ∧ e = .returned (.tuple #[.slice none 0 0,.bool false])) ∨ (has s d.fs = true ∧ ∃ g,e = .returned (.tuple #[.slice (some ⟨g,0,none⟩) (own s d.fs).bs.length (own s d.fs).bs.length,.bool true]) ∧ By.Block w' g (own s d.fs).bs ∧ w.heap.size ≤ g))
set_option maxHeartbeats 2000000 in
theorem dk_read (h : At P w p d v L rs) (s : ByteArray) : Calls Tryz.prog 64 #[.pointer (some ⟨p,0,none⟩),.string s] w (ReadE w d s) := by
 have H := Lib.hid h
 have HF := Lib.hid (dk_find h s)
 clear h
 cases hh : has s d.fs
 ·
  have HE : Hid (∀ W1,Below w.heap.size w W1 → ReadE w d s (.returned (.tuple #[.slice none 0 0,.bool false])) W1) := Lib.hid fun W1 b1 => ⟨b1,.inl ⟨hh,rfl⟩⟩
  rw [hh] at HF
  clear hh
  generalize Dk.spot s d.fs = sp at HF
  go_enter Tryz.func64,Tryz.ntmps64
  go_wp2_with (go_at_call 70; refine HF.out.mono ?_; rintro e W1 ⟨rfl,b1⟩; have HO := Lib.hid (HE.out W1 b1); clear b1)
  go_ret2
  exact HO.out
 ·
  have HP : Hid (∀ W1,Below w.heap.size w W1 → ∃ (g nn cc : Nat) (r : Fl.T) (W2 W3 : World),W1.cell? ⟨p,0,none⟩ = some (.slice (some ⟨g,0,none⟩) nn cc) ∧ Dk.spot s d.fs < nn ∧ Fl.At W1 g (Dk.spot s d.fs * 3) r ∧ r.bytes.n ≤ 4194304 ∧ (Instr.makeSlice 59 (.int .i64 (r.bytes.n : Int)) (.int .i64 (r.bytes.n : Int))).run Tryz.prog W1 = .ok (.slice (some ⟨W1.heap.size,0,none⟩) r.bytes.n r.bytes.n) W2 ∧ W2.cell? ⟨p,0,none⟩ = some (.slice (some ⟨g,0,none⟩) nn cc) ∧ Fl.At W2 g (Dk.spot s d.fs * 3) r ∧ (Builtin.copy_ #[59,59] 3 #[.slice (some ⟨W1.heap.size,0,none⟩) r.bytes.n r.bytes.n,.slice r.bytes.ao r.bytes.n r.bytes.cap]).run Tryz.prog W2 = .ok (goInt r.bytes.n) W3 ∧ ReadE w d s (.returned (.tuple #[.slice (some ⟨W1.heap.size,0,none⟩) r.bytes.n r.bytes.n,.bool true])) W3) := Lib.hid fun W1 b1 => by
   have h1 := H.out.below b1
   obtain ⟨hk,-,-,r3⟩ := row_own h1 hh
   have hn := h1.n
   obtain ⟨g,hv,-⟩ := Dk.At.spot h1 (by omega)
   have hc := h1.box.cells.1
   rw [hv] at hc
   have hon := (Dk.own_n r3).1
   have hroom := own_room h1.ok s
   have hmax := h1.ok.room
   have hmk := By.make rs[Dk.spot s d.fs].bytes.n (by omega) W1
   obtain ⟨W2,hW2⟩ : ∃ W2,W1.alloc (.cells (By.zeros rs[Dk.spot s d.fs].bytes.n) 5) = W2 := ⟨_,rfl⟩
   have b2 : Below W1.heap.size W1 W2 := hW2 ▸ (Below.refl _ _).alloc (Nat.le_refl _) _
   have hbl : By.Block W2 W1.heap.size (List.replicate rs[Dk.spot s d.fs].bytes.n 0) := hW2 ▸ By.block_made W1 _
   rw [hW2] at hmk
   have h2 := h1.below b2
   have hc2 := h2.box.cells.1
   rw [hv] at hc2
   obtain ⟨_,_,e2,l2,_⟩ := By.own_ls (By.own_below r3 b2)
   unfold sl at e2
   simp only [Value.slice.injEq] at e2
   obtain ⟨W3,hcp,hb3,hbel,hsz⟩ := By.copy W2 W1.heap.size 0 [] [] rs[Dk.spot s d.fs].bytes.n rs[Dk.spot s d.fs].bytes.ao rs[Dk.spot s d.fs].bytes.n rs[Dk.spot s d.fs].bytes.cap (Dk.own s d.fs).bs (by simpa using hbl) rfl hon (by rw [e2.1]; exact l2.seg) (some ⟨W1.heap.size,0,none⟩) (fun _ => rfl)
   refine ⟨g,v.n,v.cap,rs[Dk.spot s d.fs],W2,W3,hc,by omega,(Fl.own_at (sl_eq hv ▸ h1.rows : Fl.Own W1 0 (.slice (some ⟨g,0,none⟩) v.n v.cap) rs) _ hk).1,by omega,hmk,hc2,(Fl.own_at (sl_eq hv ▸ h2.rows : Fl.Own W2 0 (.slice (some ⟨g,0,none⟩) v.n v.cap) rs) _ hk).1,hcp,?_⟩
   refine ⟨hbel _ w (bchain b1 b2) b1.size,.inr ⟨hh,W1.heap.size,?_,by simpa using hb3,b1.size⟩⟩
   rw [hon]
  rw [hh] at HF
  clear hh
  generalize Dk.spot s d.fs = sp at HF HP
  go_enter Tryz.func64,Tryz.ntmps64
  go_wp2_with (go_at_call 70; refine HF.out.mono ?_)
  rintro e W1 ⟨rfl,b1⟩
  obtain ⟨g,nn,cc,r,W2,W3,c0,hsn,⟨q0,q1,q2⟩,hbn,hmk,c0',⟨z0,z1,z2⟩,hcp,hE⟩ := HP.out W1 b1
  have HE := Lib.hid hE
  clear hE HP b1
  go_wp2_with fail
  go_ret2
  exact HE.out
end
end Go.Proofs.YtlmjeackfepllaaGreatDoor
namespace Go.Proofs.YtlmjeackfepllaaGreatDoor
open Go.RowKit
open Mem Dk
theorem By.own_last {w : World} {B : Nat} {s : Sl} {xs : List UInt8} (h : By.Own w B (sl s) xs) (hl : 0 < xs.length) : ∃ b,s.ao = some ⟨b,0,none⟩ ∧ (sl s).ownBlock = some b ∧ w.cell? ⟨b,xs.length - 1,none⟩ = some (bv (xs.getLast?.getD 0)) ∧ w.frozen? ⟨b,xs.length - 1,none⟩ = false ∧ ∀ y,By.Own (w.setCell ⟨b,xs.length - 1,none⟩ (bv y)) B (sl s) (xs.set (xs.length - 1) y) := by
 obtain ⟨ao,n,cap⟩ := s
 rcases h.2 with ⟨_,e⟩ | ⟨g,cap',cur,e,hB,hg,hn,hc,hs,ht⟩
 · omega
 ·
  have e' := e
  unfold sl at e
  simp only [Value.slice.injEq] at e
  obtain ⟨rfl,rfl,rfl⟩ := e
  have hx : xs.getLast?.getD 0 = xs[xs.length - 1]'(by omega) := by
   rw [List.getLast?_eq_getElem?,List.getElem?_eq_getElem (by omega)]
   rfl
  refine ⟨g,rfl,rfl,?_,frozen_of_row w g _ _ _ hg,fun y => ⟨by simp,.inr ⟨g,cap,_,by rw [List.length_set]; rfl,hB,heap_setCell_same w g _ _ _ (bv y) hg,by rw [List.length_set]; exact hn,hc,by simpa using hs,?_⟩⟩⟩
  ·
   rw [cell_of_row w g _ _ _ _ hg,hx]
   have h1 : (cur.toList.take (xs.length * 1))[xs.length - 1]? = some (bv (xs[xs.length - 1]'(by omega))) := by
    rw [ht,List.getElem?_map,List.getElem?_eq_getElem (by omega)]
    rfl
   rw [List.getElem?_take_of_lt (by omega),Array.getElem?_toList] at h1
   exact h1
  · rw [List.length_set,List.map_set,← ht,Array.toList_setIfInBounds,List.take_set]
theorem Dk.xor_all : (List.range 256).all (fun n => bits BinOp.xor IntKind.u8 (n : Int) 255 == (((UInt8.ofNat n) ^^^ 255).toNat : Int)) = true := by kernel_rfl
theorem Dk.xor_byte (y : UInt8) : bits BinOp.xor IntKind.u8 (y.toNat : Int) 255 = ((y ^^^ 255).toNat : Int) := by
 have h := List.all_eq_true.1 Dk.xor_all y.toNat (List.mem_range.2 y.toNat_lt)
 rw [beq_iff_eq,UInt8.ofNat_toNat] at h
 exact h
theorem Dk.tear_len (f : F) (h : f.kept ≤ f.bs.length) (p : Nat) : f.kept + p % (f.bs.length - f.kept + 1) ≤ f.bs.length := by
 have := Nat.mod_lt p (show 0 < f.bs.length - f.kept + 1 by omega)
 omega
theorem Dk.tear_no {f : F} {p : Nat} (h : f.kept ≤ f.bs.length) (hn : ¬ (0 < p % (f.bs.length - f.kept + 1) ∧ p / (f.bs.length - f.kept + 1) % 2 = 1)) : tear f p = ⟨f.name,f.bs.take (f.kept + p % (f.bs.length - f.kept + 1)),f.kept + p % (f.bs.length - f.kept + 1)⟩ := by
 have hl : (f.bs.take (f.kept + p % (f.bs.length - f.kept + 1))).length = f.kept + p % (f.bs.length - f.kept + 1) := by rw [List.length_take,Nat.min_eq_left (tear_len f h p)]
 unfold tear
 simp only
 rw [if_neg hn,hl]
theorem Dk.tear_yes {f : F} {p : Nat} (h : f.kept ≤ f.bs.length) (hn : 0 < p % (f.bs.length - f.kept + 1) ∧ p / (f.bs.length - f.kept + 1) % 2 = 1) : tear f p = ⟨f.name,flip (f.bs.take (f.kept + p % (f.bs.length - f.kept + 1))),f.kept + p % (f.bs.length - f.kept + 1)⟩ := by
 have hl : (f.bs.take (f.kept + p % (f.bs.length - f.kept + 1))).length = f.kept + p % (f.bs.length - f.kept + 1) := by rw [List.length_take,Nat.min_eq_left (tear_len f h p)]
 unfold tear
 simp only
 rw [if_pos hn]
 have h2 : (flip (f.bs.take (f.kept + p % (f.bs.length - f.kept + 1)))).length = f.kept + p % (f.bs.length - f.kept + 1) := by
  unfold flip
  rw [List.length_set,hl]
 rw [h2]
def Dk.TearE (w : World) (g n cap : Nat) (M : List Fl.T) (k : Nat) (r : Fl.T) (f : F) (e : Ending) (w' : World) : Prop :=
 e = .returned (.tuple #[]) ∧ ∃ r',Fl.Own w' 0 (.slice (some ⟨g,0,none⟩) n cap) (M.set k r') ∧ One w' r' f ∧ (sl r'.bytes).ownBlock = (sl r.bytes).ownBlock ∧ UpdQ (fun b => b = g ∨ (sl r.bytes).ownBlock = some b) w w'
set_option maxHeartbeats 1000000 in
theorem fl_tear (w : World) (g n cap : Nat) (M : List Fl.T) (k : Nat) (h : Fl.Own w 0 (.slice (some ⟨g,0,none⟩) n cap) M) (hk : k < M.length) (f : F) (one : One w M[k] f) (hkp : f.kept ≤ f.bs.length) (hbl : f.bs.length ≤ 4194304) (hap : ∀ b,(sl M[k].bytes).ownBlock = some b → b ≠ g) (pick : Nat) (hp : pick ≤ 9223372036854775807) :
  Calls Tryz.prog 63 #[.pointer (some ⟨g,k * 3,none⟩),.int .i64 (pick : Int)] w (TearE w g n cap M k M[k] (tear f pick)) := by
 obtain ⟨wy,hwy⟩ : ∃ wy,f.bs.length - f.kept + 1 = wy := ⟨_,rfl⟩
 obtain ⟨st,hst⟩ : ∃ st,pick % wy = st := ⟨_,rfl⟩
 obtain ⟨q,hq⟩ : ∃ q,pick / wy = q := ⟨_,rfl⟩
 have hon := (Dk.own_n one.own).1
 have hlen := tear_len f hkp pick
 rw [hwy,hst] at hlen
 have hstw : st < wy := hst ▸ Nat.mod_lt _ (by omega)
 have hhead := By.own_head one.own (f.kept + st) hlen
 have hd : Below w.heap.size w w.drew := (Below.refl _ _).drew
 have hsh := fl_shorten w.drew g n cap M k (f.kept + st) (Fl.own_drew h) hk hhead.2.2 f.kept one.kept
 have hmin : min f.kept (f.kept + st) = f.kept := Nat.min_eq_left (by omega)
 rw [hmin] at hsh
 obtain ⟨W2,hW2⟩ : ∃ W2,(w.drew.setCell ⟨g,k * 3 + 1,none⟩ (.slice M[k].bytes.ao (f.kept + st) M[k].bytes.cap)).setCell ⟨g,k * 3 + 2,none⟩ (.int .i64 (f.kept : Int)) = W2 := ⟨_,rfl⟩
 rw [hW2] at hsh
 have hO2 := Fl.own_put2 (Fl.own_drew h) k hk ⟨M[k].bytes.ao,f.kept + st,M[k].bytes.cap⟩ (f.kept : Int)
 simp only at hO2
 rw [hW2] at hO2
 have u2 : UpdQ (fun b => b = g) w W2 := by
  rw [← hW2]
  exact ((UpdQ.of hd).trans (UpdQ.set (Q := fun b => b = g) w.drew rfl _ _)).trans (UpdQ.set (Q := fun b => b = g) _ rfl _ _)
 have hB2 : By.Own W2 0 (sl ⟨M[k].bytes.ao,f.kept + st,M[k].bytes.cap⟩) (f.bs.take (f.kept + st)) := u2.rows hhead.1 fun b e z => hap b (hhead.2.1 ▸ e) z
 have hl2 : (f.bs.take (f.kept + st)).length = f.kept + st := by rw [List.length_take,Nat.min_eq_left hlen]
 have hk2 : k < (M.set k ⟨M[k].name,⟨M[k].bytes.ao,f.kept + st,M[k].bytes.cap⟩,(f.kept : Int)⟩).length := by rw [List.length_set]; exact hk
 have hg2 : (M.set k ⟨M[k].name,⟨M[k].bytes.ao,f.kept + st,M[k].bytes.cap⟩,(f.kept : Int)⟩)[k] = ⟨M[k].name,⟨M[k].bytes.ao,f.kept + st,M[k].bytes.cap⟩,(f.kept : Int)⟩ := List.getElem_set_self _
 obtain ⟨⟨q0,q1,q2⟩,qf,_⟩ := Fl.own_at h k hk
 obtain ⟨⟨z0,z1,z2⟩,_,_⟩ := Fl.own_at hO2 k hk2
 rw [hg2] at z0 z1 z2
 simp only at z0 z1 z2
 have HKeep : Hid (∀ W xs,Fl.Own W 0 (.slice (some ⟨g,0,none⟩) n cap) (M.set k ⟨M[k].name,⟨M[k].bytes.ao,f.kept + st,M[k].bytes.cap⟩,(f.kept : Int)⟩) → By.Own W 0 (sl ⟨M[k].bytes.ao,f.kept + st,M[k].bytes.cap⟩) xs → UpdQ (fun b => b = g ∨ (sl M[k].bytes).ownBlock = some b) w W → tear f pick = ⟨f.name,xs,f.kept + st⟩ → Calls Tryz.prog 91 #[.pointer (some ⟨g,k * 3,none⟩)] W (TearE w g n cap M k M[k] (tear f pick))) := Lib.hid fun W xs a1 a2 a3 a4 => by
  refine (fl_keep W g n cap _ k a1 hk2 (by rw [hg2]; show f.kept + st ≤ _; omega)).mono ?_
  rintro e W' ⟨rfl,rfl⟩
  have b1 := Fl.own_put a1 k 2 hk2 (by omega) (.int .i64 ((f.kept + st : Nat) : Int)) ⟨M[k].name,⟨M[k].bytes.ao,f.kept + st,M[k].bytes.cap⟩,((f.kept + st : Nat) : Int)⟩ (by rw [hg2]; rfl)
  rw [List.set_set] at b1
  rw [hg2,a4]
  have k2 : UpdQ (fun b => b = g) W (W.setCell ⟨g,k * 3 + 2,none⟩ (.int .i64 ((f.kept + st : Nat) : Int))) := UpdQ.set (Q := fun b => b = g) W rfl _ _
  refine ⟨rfl,_,b1,⟨one.name,rfl,k2.rows a2 fun b e z => hap b (hhead.2.1 ▸ e) z⟩,hhead.2.1,a3.trans (k2.mono fun b z => .inl z)⟩
 have hways : (M[k].bytes.n : Int) - (f.kept : Int) + 1 = (wy : Int) := by omega
 have hrem : (pick : Int).tmod (wy : Int) = (st : Int) := by rw [← hst]; exact (Int.ofNat_tmod _ _).symm
 have hquo : (pick : Int).tdiv (wy : Int) = (q : Int) := by rw [← hq]; exact (Int.ofNat_tdiv _ _).symm
 have hqp : q ≤ pick := hq ▸ Nat.div_le_self _ _
 have hwy0 : 0 < wy := by omega
 have hmn : M[k].bytes.n ≤ 4194304 := by omega
 have hkn : f.kept ≤ M[k].bytes.n := by omega
 have hkst : f.kept + st ≤ M[k].bytes.n := by omega
 have HSh := Lib.hid hsh
 have h1k := one.kept
 rw [h1k] at q2
 simp only [Int.natCast_add] at HSh
 by_cases hf : 0 < st ∧ q % 2 = 1
 ·
  have HT : Hid (tear f pick = ⟨f.name,Dk.flip (f.bs.take (f.kept + st)),f.kept + st⟩) := Lib.hid (by
   have := tear_yes (p := pick) hkp (by rw [hwy,hst,hq]; exact hf)
   rw [hwy,hst] at this
   exact this)
  obtain ⟨b,hb1,hb2,hb3,hb4,hb5⟩ := By.own_last hB2 (by rw [hl2]; omega)
  rw [hl2] at hb3 hb4 hb5
  simp only at hb1
  rw [hb1] at z1
  have hfl : Dk.flip (f.bs.take (f.kept + st)) = (f.bs.take (f.kept + st)).set (f.kept + st - 1) ((f.bs.take (f.kept + st)).getLast?.getD 0 ^^^ 255) := by
   unfold Dk.flip
   rw [hl2]
  have hd2 : Below W2.heap.size W2 W2.drew := (Below.refl _ _).drew
  have hgb : b ≠ g := hap b (hhead.2.1 ▸ hb2)
  have k3 : UpdQ (fun x => x = b) W2 (W2.setCell ⟨b,f.kept + st - 1,none⟩ (By.bv ((f.bs.take (f.kept + st)).getLast?.getD 0 ^^^ 255))).drew := (UpdQ.set (Q := fun x => x = b) W2 rfl _ _).trans (UpdQ.of (Below.refl _ _).drew)
  have HK := Lib.hid (HKeep.out (W2.setCell ⟨b,f.kept + st - 1,none⟩ (By.bv ((f.bs.take (f.kept + st)).getLast?.getD 0 ^^^ 255))).drew _ (k3.rows hO2 fun x e z => hgb (by cases e; exact z.symm)) (hb5 _) ((u2.mono fun b z => .inl z).trans (k3.mono fun x z => .inr (by rw [z,← hhead.2.1]; exact hb2))) (hfl ▸ HT.out))
  have hq2 : (q : Int).tmod 2 = ((q % 2 : Nat) : Int) := (Int.ofNat_tmod q 2).symm
  have hqe : (q : Int).tmod 2 = 1 := by omega
  have hst0 : (0 : Int) < (st : Int) := by omega
  generalize (f.bs.take (f.kept + st)).getLast?.getD 0 = y at hb3 HK
  generalize tear f pick = tf at HK HT
  obtain ⟨j,hj⟩ : ∃ j,f.kept + st = j + 1 := ⟨f.kept + st - 1,by omega⟩
  have hj' : f.kept + st - 1 = j := by omega
  rw [hj'] at hb3 hb4 HK
  rw [hj] at z1
  have hji : (f.kept : Int) + (st : Int) = (j : Int) + 1 := by omega
  rw [hji] at HSh
  unfold By.bv at hb3 HK
  rw [← Dk.xor_byte] at HK
  have hjm : j ≤ 4194304 := by omega
  generalize f.kept = kp at *
  generalize M[k] = r at *
  clear HKeep HT hO2 hB2 hhead h hsh hg2 hk2 hW2 one hap hst hq hwy hf u2 qf hl2 hon hb5 hfl k3 hq2 hj hj'
  go_enter Tryz.func63,Tryz.ntmps63
  go_wp2_with fail
  go_region
  go_wp2_with (go_at_call 89; refine HSh.out.mono ?_)
  rintro e u ⟨rfl,rfl⟩
  go_wp2_with fail
  go_region
  all_goals go_wp2_with (go_at_call 91; refine HK.out.mono ?_; rintro e u hE; have HE := Lib.hid hE; obtain ⟨rfl,-⟩ := hE)
  all_goals go_end0
  all_goals exact HE.out
 ·
  have HT : Hid (tear f pick = ⟨f.name,f.bs.take (f.kept + st),f.kept + st⟩) := Lib.hid (by
   have := tear_no (p := pick) hkp (by rw [hwy,hst,hq]; exact hf)
   rw [hwy,hst] at this
   exact this)
  have HK := Lib.hid (HKeep.out W2 _ hO2 hB2 (u2.mono fun b z => .inl z) HT.out)
  have hq2 : (q : Int).tmod 2 = ((q % 2 : Nat) : Int) := (Int.ofNat_tmod q 2).symm
  have hf' : (0 : Int) < (st : Int) → (((q % 2 : Nat) : Int) == 1) = false := fun z1 => beq_eq_false_iff_ne.2 fun z2 => hf ⟨by omega,by omega⟩
  generalize q % 2 = t at hq2 hf'
  generalize tear f pick = tf at HK HT
  generalize f.kept = kp at *
  generalize M[k] = r at *
  clear HKeep HT hO2 hB2 hhead h hsh hg2 hk2 hW2 one hap hst hq hwy hf u2 qf hl2 hon
  by_cases hst0 : (0 : Int) < (st : Int)
  ·
   have hqe := hf' hst0
   clear hf'
   go_enter Tryz.func63,Tryz.ntmps63
   go_wp2_with fail
   go_region
   all_goals go_wp2_with (first | (go_at_call 89; refine HSh.out.mono ?_; rintro e u ⟨rfl,rfl⟩) | (go_at_call 91; refine HK.out.mono ?_; rintro e u hE; have HE := Lib.hid hE; obtain ⟨rfl,-⟩ := hE))
   all_goals go_end0
   all_goals exact HE.out
  ·
   clear hf'
   obtain rfl : st = 0 := by omega
   simp only [Int.natCast_zero,Int.add_zero,Nat.add_zero] at HSh z1 hrem hkst
   go_enter Tryz.func63,Tryz.ntmps63
   go_wp2_with fail
   go_region
   all_goals go_wp2_with (first | (go_at_call 89; refine HSh.out.mono ?_; rintro e u ⟨rfl,rfl⟩) | (go_at_call 91; refine HK.out.mono ?_; rintro e u hE; have HE := Lib.hid hE; obtain ⟨rfl,-⟩ := hE))
   all_goals go_end0
   all_goals exact HE.out
end Go.Proofs.YtlmjeackfepllaaGreatDoor
namespace Go.Proofs.YtlmjeackfepllaaGreatDoor
open Go.RowKit
open Mem Dk
theorem Dk.tear_name (f : F) (p : Nat) : (tear f p).name = f.name := rfl
theorem Dk.tear_kept (f : F) (p : Nat) : (tear f p).kept = (tear f p).bs.length := rfl
theorem Dk.tear_le (f : F) (p : Nat) : (tear f p).bs.length ≤ f.bs.length := by
 unfold tear
 simp only
 split
 ·
  unfold Dk.flip
  rw [List.length_set,List.length_take]
  exact Nat.min_le_right _ _
 ·
  rw [List.length_take]
  exact Nat.min_le_right _ _
theorem Dk.tear_ok {d : D} (h : Ok d) {k : Nat} (hk : k < d.fs.length) (p : Nat) : Ok ⟨d.fs.set k (tear d.fs[k] p),d.off,d.left⟩ := by
 have hm : ∀ f ∈ d.fs.set k (tear d.fs[k] p),f = tear d.fs[k] p ∨ f ∈ d.fs := fun f hf => (List.mem_or_eq_of_mem_set hf).symm
 have h1 := total_set hk (tear d.fs[k] p)
 have h2 := tear_le d.fs[k] p
 have h3 := h.room
 refine ⟨set_sorted h.sorted hk rfl,fun f hf => ?_,by show total (d.fs.set k (tear d.fs[k] p)) ≤ _; omega,fun f hf => ?_,h.left⟩
 ·
  rcases hm f hf with rfl | hf
  · exact Nat.le_of_eq (tear_kept _ _)
  · exact h.kept f hf
 ·
  rcases hm f hf with rfl | hf
  ·
   show d.fs[k].name.size ≤ 24
   exact h.names _ (List.getElem_mem hk)
  · exact h.names f hf
def Dk.upto (zs : List Int) (k : Nat) (fs : List F) : List F := fs.mapIdx fun i f => if i < k then tear f (pick zs i) else f
theorem Dk.upto_zero (zs : List Int) (fs : List F) : upto zs 0 fs = fs := by
 apply List.ext_getElem?
 intro i
 unfold upto
 rw [List.getElem?_mapIdx]
 cases fs[i]? <;> simp
theorem Dk.upto_all (zs : List Int) (fs : List F) : upto zs fs.length fs = fs.mapIdx fun i f => tear f (pick zs i) := by
 apply List.ext_getElem?
 intro i
 unfold upto
 rw [List.getElem?_mapIdx,List.getElem?_mapIdx]
 by_cases h : i < fs.length
 · simp only [if_pos h]
 ·
  rw [List.getElem?_eq_none (Nat.le_of_not_lt h)]
  rfl
theorem Dk.upto_len (zs : List Int) (k : Nat) (fs : List F) : (upto zs k fs).length = fs.length := by
 unfold upto
 rw [List.length_mapIdx]
theorem Dk.upto_next (zs : List Int) (fs : List F) {k : Nat} (hk : k < (upto zs k fs).length) : (upto zs k fs).set k (tear (upto zs k fs)[k] (pick zs k)) = upto zs (k + 1) fs := by
 have hf : k < fs.length := by rw [← upto_len zs k fs]; exact hk
 have e0 : (upto zs k fs)[k]? = some fs[k] := by
  unfold upto
  rw [List.getElem?_mapIdx,List.getElem?_eq_getElem hf]
  simp
 have e : (upto zs k fs)[k] = fs[k] := (List.getElem?_eq_some_iff.1 e0).2
 rw [e]
 apply List.ext_getElem?
 intro i
 rw [List.getElem?_set,upto_len]
 by_cases h : k = i
 ·
  subst h
  rw [if_pos rfl,if_pos hf]
  unfold upto
  rw [List.getElem?_mapIdx,List.getElem?_eq_getElem hf]
  simp
 ·
  rw [if_neg h]
  unfold upto
  rw [List.getElem?_mapIdx,List.getElem?_mapIdx]
  have : (i < k + 1) = (i < k) := by rw [eq_iff_iff]; omega
  simp only [this]
section
variable {P : Nat → Prop} {w u : World} {p : Nat} {d : D} {v : Sl} {L : Int} {rs : List Fl.T}
theorem Dk.At.stay (h : At P w p d v L rs) {k : Nat} (hk : k < rs.length) {r' : Fl.T} {f' : F} (rows : Fl.Own u 0 (sl v) (rs.set k r')) (one : One u r' f') (hu : UpdQ (fun b => (sl v).ownBlock = some b ∨ (sl rs[k].bytes).ownBlock = some b) w u)
  (hb : (sl r'.bytes).ownBlock = (sl rs[k].bytes).ownBlock) (ok : Ok ⟨d.fs.set k f',d.off,d.left⟩) : At P u p ⟨d.fs.set k f',d.off,d.left⟩ v L (rs.set k r') := by
 have h1 := Dk.At.row h hk rows one hu (.inl hb) ok
 have hpb : ∀ r ∈ rs.set k r',Pb P p (sl v) r := fun r hr => by
  rcases List.mem_or_eq_of_mem_set hr with hr | rfl
  · exact h.pbs r hr
  · exact fun b e => h.pb k hk b (hb ▸ e)
 exact ⟨h1.box,h1.arm,h1.rows,h1.each,h.pp,h.pv,fun i hi b e => hpb _ (List.getElem_mem hi) b e,h1.ap,h1.ok,h1.few⟩
theorem Ints.keep {Q : Nat → Prop} {w u : World} {ao : Option Addr} {n cap : Nat} {zs : List Int} (h : Ints w ao n cap zs) (k : UpdQ Q w u) (hQ : zs ≠ [] → ∀ ad,ao = some ad → ¬ Q ad.block) : Ints u ao n cap zs := by
 refine ⟨h.len,h.fits,h.reach,?_,h.wf⟩
 rcases h.seg with e | ⟨b,off,e,hc⟩
 · exact .inl e
 ·
  refine .inr ⟨b,off,e,fun i hi => ?_⟩
  have h1 := hc i hi
  have h2 := k.block b (cell_lt h1) (hQ (List.ne_nil_of_length_pos (by omega)) _ e)
  rw [← h1]
  unfold World.cell?
  simp only
  rw [h2]
theorem Dk.torn_row (h : At P w p d v L rs) {k : Nat} (hk : k < rs.length) (pk : Nat) (hp : pk ≤ 9223372036854775807) :
  ∃ g,w.cell? ⟨p,0,none⟩ = some (.slice (some ⟨g,0,none⟩) v.n v.cap) ∧ Calls Tryz.prog 63 #[.pointer (some ⟨g,k * 3,none⟩),.int .i64 (pk : Int)] w fun e w' => e = .returned (.tuple #[]) ∧ (∃ rs',At P w' p ⟨d.fs.set k (tear (d.fs[k]'(h.each.len ▸ hk)) pk),d.off,d.left⟩ v L rs') ∧ UpdQ P w w' := by
 have hn := h.n
 have hkf : k < d.fs.length := h.each.len ▸ hk
 obtain ⟨g,hv,hg⟩ := Dk.At.spot h (by omega)
 have hc := h.box.cells.1
 rw [hv] at hc
 have hone : One w rs[k] d.fs[k] := ⟨h.each.name k hk,h.each.kept k hk,h.each.own k hk⟩
 have hb1 := h.ok.kept _ (List.getElem_mem hkf)
 have hb2 := total_mem (List.getElem_mem hkf)
 have hb3 := h.ok.room
 refine ⟨g,hc,(fl_tear w g v.n v.cap rs k (sl_eq hv ▸ h.rows) hk d.fs[k] hone hb1 (by omega) (fun b e z => (h.pb k hk b e).2.2 (by rw [z]; exact hg)) pk hp).mono ?_⟩
 rintro e w' ⟨rfl,r',a1,a2,a3,a4⟩
 refine ⟨rfl,⟨rs.set k r',Dk.At.stay h hk (sl_eq hv ▸ a1) a2 (a4.mono fun b z => z.imp (fun z => by rw [z]; exact hg) id) a3 (tear_ok h.ok hkf pk)⟩,a4.mono fun b z => z.elim (fun z => by rw [z]; exact (h.pv g hg).1) fun z => (h.pb k hk b z).1⟩
def Dk.CrashE (P : Nat → Prop) (w : World) (p : Nat) (d : D) (zs : List Int) (e : Ending) (w' : World) : Prop := e = .returned (.tuple #[]) ∧ Dsk P w' p (crashD d zs) ∧ UpdQ P w w'
set_option maxHeartbeats 4000000 in
theorem dk_crash (h : At P w p d v L rs) (ao : Option Addr) (n cap : Nat) (zs : List Int) (hI : Ints w ao n cap zs) (hap : zs ≠ [] → ∀ ad,ao = some ad → ¬ P ad.block) :
  Calls Tryz.prog 24 #[.pointer (some ⟨p,0,none⟩),.slice ao n cap] w (CrashE P w p d zs) := by
 have hn := h.n
 have few := h.few
 have HI := Lib.hid hI
 have hcap := hI.reach
 have hfit := hI.fits
 have HLen := Lib.hid hI.len
 obtain ⟨c0,c1,c2,c3⟩ := h.box.cells
 have f1 := h.box.frozen 1
 have h1 := h.setOff false
 have k1 : UpdQ P w (w.setCell ⟨p,1,none⟩ (.bool false)) := UpdQ.set (Q := P) w h.pp _ _
 obtain ⟨W1,hW1⟩ : ∃ W1,w.setCell ⟨p,1,none⟩ (.bool false) = W1 := ⟨_,rfl⟩
 rw [hW1] at h1 k1
 have HAr := Lib.hid (dk_arm (-1) ⟨by omega,by omega⟩ h1)
 have HK1 := Lib.hid k1
 have HP := Lib.hid h.pp
 have HN : Hid (v.n = d.fs.length) := Lib.hid hn.1
 obtain ⟨N,hN⟩ : ∃ N,v.n = N := ⟨_,rfl⟩
 have hNm : N ≤ 1000 := by omega
 have HNe := Lib.hid hN
 clear h h1 k1 hI hn
 go_enter Tryz.func24,Tryz.ntmps24
 go_wp2_with (go_at_call 22; refine HAr.out.mono ?_)
 rintro e W2 ⟨rfl,h2,q2⟩
 have h2' : At P W2 p ⟨d.fs,false,-1⟩ v (-1) rs := h2
 have HK2 := Lib.hid (HK1.out.trans (q2.mono (R := P) fun b z => z ▸ HP.out))
 have HS2 := Lib.hid h2'
 obtain ⟨d0,d1,d2,d3⟩ := h2'.box.cells
 rw [hN] at d0
 clear h2 h2' q2 HAr hW1 c0 c1 c2 c3 f1 HK1 hN
 go_wp2_with fail
 go_loopw [4,5,16] (fun _ _ i wr => ∃ k : Nat,k ≤ N ∧ i = .int .i64 k ∧ Hid (∃ rs',At P wr p ⟨upto zs k d.fs,false,-1⟩ v (-1) rs') ∧ Hid (UpdQ P w wr)) (fun _ _ i _ => N - (intOf i).toNat)
 case atStart => exact ⟨0,by omega,rfl,Lib.hid ⟨rs,by rw [upto_zero]; exact HS2.out⟩,HK2⟩
 case round =>
  rename World => wz
  obtain ⟨k,hk,rfl,HS,HK⟩ := hrel
  by_cases hlt : k < N
  ·
   obtain ⟨rs',h3⟩ := HS.out
   have hkr : k < rs'.length := by
    have h4 := h3.n
    have h5 := HNe.out
    omega
   have hku : k < (upto zs k d.fs).length := h3.each.len ▸ hkr
   have HNx := Lib.hid (upto_next zs d.fs hku)
   have hpf : pick zs k ≤ 9223372036854775807 := by
    unfold pick
    by_cases hz : k < zs.length
    ·
     have := HI.out.wf _ (List.getElem_mem hz)
     rw [List.getElem?_eq_getElem hz]
     show zs[k].toNat ≤ _
     unfold Fit at this
     omega
    ·
     rw [List.getElem?_eq_none (Nat.le_of_not_lt hz)]
     decide
   obtain ⟨g,e0,hT⟩ := torn_row h3 hkr (pick zs k) hpf
   rw [HNe.out] at e0
   have HT : Hid (Calls Tryz.prog 63 #[.pointer (some ⟨g,k * 3,none⟩),.int .i64 ((pick zs k : Nat) : Int)] wz fun e w' => e = .returned (.tuple #[]) ∧ Hid (∃ rs',At P w' p ⟨upto zs (k + 1) d.fs,false,-1⟩ v (-1) rs') ∧ Hid (UpdQ P w w')) := Lib.hid (hT.mono fun e w' z => ⟨z.1,Lib.hid (HNx.out ▸ z.2.1),Lib.hid (HK.out.trans z.2.2)⟩)
   by_cases hz : k < n
   ·
    obtain ⟨b,off,z,hao,hc,hfz⟩ := (HI.out.keep HK.out hap).at k hz
    have hpk : max z 0 = ((pick zs k : Nat) : Int) := by
     unfold pick
     have hz' : k < zs.length := HLen.out ▸ hz
     have e1 : zs[k] = z := by
      rcases (HI.out.keep HK.out hap).seg with e | ⟨b',off',e',hc'⟩
      ·
       rw [e] at hz'
       simp at hz'
      ·
       rw [hao] at e'
       cases e'
       have := hc' k hz'
       rw [hc] at this
       cases this
       rfl
     rw [List.getElem?_eq_getElem hz',e1]
     show max z 0 = ((z.toNat : Nat) : Int)
     omega
    subst hao
    generalize pick zs k = pk at hpk HT hpf
    clear h3 hT HNx hkr hku hfz
    go_wp2_with (go_at_call 63; refine HT.out.mono ?_; rintro e W3 ⟨rfl,HS3,HK3⟩)
    go_roundw
    case rel => exact ⟨k + 1,by omega,by go_num,HS3,HK3⟩
    case measure => simp [intOf]; omega
   ·
    have hpk : pick zs k = 0 := by
     unfold pick
     rw [List.getElem?_eq_none (by have := HLen.out; omega)]
     rfl
    rw [hpk] at HT
    clear h3 hT HNx hkr hku hpk hpf
    go_wp2_with (go_at_call 63; refine HT.out.mono ?_; rintro e W3 ⟨rfl,HS3,HK3⟩)
    go_roundw
    case rel => exact ⟨k + 1,by omega,by go_num,HS3,HK3⟩
    case measure => simp [intOf]; omega
  ·
   obtain rfl : k = N := by omega
   have HE : Hid (CrashE P w p d zs (.returned (.tuple #[])) wz) := Lib.hid (by
    obtain ⟨rs',h3⟩ := HS.out
    rw [show k = d.fs.length from HNe.out.symm.trans HN.out,upto_all] at h3
    exact ⟨rfl,⟨v,-1,rs',h3⟩,HK.out⟩)
   go_wp2_with fail
   go_end0
   exact HE.out
end
end Go.Proofs.YtlmjeackfepllaaGreatDoor
namespace Go.Proofs.YtlmjeackfepllaaGreatDoor
open Go.RowKit
open Mem Dk
structure Dk.S (P : Nat → Prop) (w0 W : World) (p : Nat) (d : D) : Prop where
 dsk : Dsk P W p d
 sub : ∀ b,P b → w0.heap.size ≤ b
 bel : Below w0.heap.size w0 W
section
variable {P : Nat → Prop} {w0 w u : World} {p : Nat} {d : D}
theorem Dk.S.later (h : S P w0 w p d) (k : Below w.heap.size w u) : S P w0 u p d := ⟨h.dsk.below k,h.sub,bchain h.bel k⟩
theorem Dk.S.tight (h : S P w0 w p d) : S (fun b => P b ∧ b < w.heap.size) w0 w p d := ⟨h.dsk.lt,fun b z => h.sub b z.1,h.bel⟩
theorem Dk.S.free (h : S P w0 w p d) : S (fun b => w0.heap.size ≤ b) w0 w p d := ⟨h.dsk.mono h.sub,fun b z => z,h.bel⟩
theorem Dk.S.op {x : Int × D} {e : Ending} {w' : World} (h : S P w0 w p d) (k : OpE P w p x e w') : e = .returned (.int .i64 x.1) ∧ S (nw P w) w0 w' p x.2 ∧ UpdQ P w w' :=
 ⟨k.1,⟨k.2.1,fun b z => z.elim (h.sub b) fun z => Nat.le_trans h.bel.size z,k.2.2.below w0 h.bel h.sub⟩,k.2.2⟩
theorem s_new (w : World) : Calls Tryz.prog 9 #[] w fun e w' => ∃ p,e = .returned (.pointer (some ⟨p,0,none⟩)) ∧ S (fun b => w.heap.size ≤ b) w w' p Dk.new := by
 refine (dk_new w w (Below.refl _ _)).mono ?_
 rintro e w' ⟨p,rfl,h,b⟩
 exact ⟨p,rfl,h,fun b z => z,b⟩
theorem s_append (h : S P w0 w p d) (s : ByteArray) (hs : s.size ≤ 9223372036854775807) (ao : Option Addr) (n cap : Nat) (zs : List UInt8) (hL : By.Ls w ao n cap zs) (hap : zs ≠ [] → ∀ ad,ao = some ad → ¬ P ad.block) (few : d.fs.length < 1000) :
  Calls Tryz.prog 30 #[.pointer (some ⟨p,0,none⟩),.string s,.slice ao n cap] w fun e w' => e = .returned (.int .i64 (appD d s zs).1) ∧ S (nw P w) w0 w' p (appD d s zs).2 ∧ UpdQ P w w' := by
 obtain ⟨v,L,rs,k⟩ := h.dsk
 refine (dk_append k s hs ao n cap zs hL hap few).mono ?_
 exact fun e w' z => h.op z
theorem s_append_new (h : S P w0 w p d) (s : ByteArray) (hs : s.size ≤ 9223372036854775807) (zs : List UInt8) (n : Nat) (hn : n = zs.length) (hm : n ≤ 1000) (few : d.fs.length < 1000) (cs : Array Value) (hcs : cs = (zs.map By.bv).toArray) :
  Calls Tryz.prog 30 #[.pointer (some ⟨p,0,none⟩),.string s,.slice (some ⟨w.heap.size,0,none⟩) n n] (w.alloc (.cells cs 5)) fun e w' => e = .returned (.int .i64 (appD d s zs).1) ∧ S (fun b => w0.heap.size ≤ b) w0 w' p (appD d s zs).2 := by
 subst hn hcs
 have k : Below w.heap.size w (w.alloc (.cells (zs.map By.bv).toArray 5)) := (Below.refl _ _).alloc (Nat.le_refl _) _
 have hb : By.Block (w.alloc (.cells (zs.map By.bv).toArray 5)) w.heap.size zs := heap_alloc_new w _
 refine (s_append (h.tight.later k) s hs _ _ _ zs (hb.ls (by omega)) (fun _ ad e z => ?_) few).mono ?_
 ·
  cases e
  exact Nat.lt_irrefl _ z.2
 ·
  rintro e w' ⟨rfl,h2,_⟩
  exact ⟨rfl,h2.free⟩
theorem s_sync (h : S P w0 w p d) (s : ByteArray) : Calls Tryz.prog 45 #[.pointer (some ⟨p,0,none⟩),.string s] w fun e w' => e = .returned (.int .i64 (syncD d s).1) ∧ S (nw P w) w0 w' p (syncD d s).2 ∧ UpdQ P w w' := by
 obtain ⟨v,L,rs,k⟩ := h.dsk
 exact (dk_sync k s).mono fun e w' z => h.op z
theorem s_cut (h : S P w0 w p d) (s : ByteArray) (n : Int) (hn : Fit n) : Calls Tryz.prog 42 #[.pointer (some ⟨p,0,none⟩),.string s,.int .i64 n] w fun e w' => e = .returned (.int .i64 (cutD d s n).1) ∧ S (nw P w) w0 w' p (cutD d s n).2 ∧ UpdQ P w w' := by
 obtain ⟨v,L,rs,k⟩ := h.dsk
 exact (dk_cut k s n hn).mono fun e w' z => h.op z
theorem s_rename (h : S P w0 w p d) (s t : ByteArray) (ht : t.size ≤ 9223372036854775807) : Calls Tryz.prog 120 #[.pointer (some ⟨p,0,none⟩),.string s,.string t] w fun e w' => e = .returned (.int .i64 (renD d s t).1) ∧ S (nw P w) w0 w' p (renD d s t).2 ∧ UpdQ P w w' := by
 obtain ⟨v,L,rs,k⟩ := h.dsk
 exact (dk_rename k s t ht).mono fun e w' z => h.op z
theorem s_remove (h : S P w0 w p d) (s : ByteArray) : Calls Tryz.prog 38 #[.pointer (some ⟨p,0,none⟩),.string s] w fun e w' => e = .returned (.int .i64 (remD d s).1) ∧ S (nw P w) w0 w' p (remD d s).2 ∧ UpdQ P w w' := by
 obtain ⟨v,L,rs,k⟩ := h.dsk
 exact (dk_remove k s).mono fun e w' z => h.op z
theorem s_arm (h : S P w0 w p d) (n : Int) (hn : Fit n) : Calls Tryz.prog 22 #[.pointer (some ⟨p,0,none⟩),.int .i64 n] w fun e w' => e = .returned (.tuple #[]) ∧ S P w0 w' p (armD d n) ∧ UpdQ P w w' := by
 obtain ⟨v,L,rs,k⟩ := h.dsk
 refine (dk_arm n hn k).mono ?_
 rintro e w' ⟨rfl,h1,q⟩
 have q' : UpdQ P w w' := q.mono fun b z => z ▸ k.pp
 exact ⟨rfl,⟨⟨v,n,rs,h1⟩,h.sub,q'.below w0 h.bel h.sub⟩,q'⟩
theorem s_read (h : S P w0 w p d) (s : ByteArray) : Calls Tryz.prog 64 #[.pointer (some ⟨p,0,none⟩),.string s] w (ReadE w d s) := by
 obtain ⟨v,L,rs,k⟩ := h.dsk
 exact dk_read k s
theorem s_crash (h : S P w0 w p d) (ao : Option Addr) (n cap : Nat) (zs : List Int) (hI : Ints w ao n cap zs) (hap : zs ≠ [] → ∀ ad,ao = some ad → ¬ P ad.block) :
  Calls Tryz.prog 24 #[.pointer (some ⟨p,0,none⟩),.slice ao n cap] w fun e w' => e = .returned (.tuple #[]) ∧ S P w0 w' p (crashD d zs) ∧ UpdQ P w w' := by
 obtain ⟨v,L,rs,k⟩ := h.dsk
 refine (dk_crash k ao n cap zs hI hap).mono ?_
 rintro e w' ⟨rfl,h1,q⟩
 exact ⟨rfl,⟨h1,h.sub,q.below w0 h.bel h.sub⟩,q⟩
end
section
variable (s : ByteArray) (b : List UInt8) (k : Nat) (o : Bool) (l : Int)
theorem Dk.one_has : has s [⟨s,b,k⟩] = true := by simp [has]
theorem Dk.one_spot : Dk.spot s [⟨s,b,k⟩] = 0 := by simp [Dk.spot,lt_irrefl]
theorem Dk.one_own : own s [⟨s,b,k⟩] = ⟨s,b,k⟩ := by
 unfold own
 rw [if_pos (one_has s b k),one_spot]
 rfl
theorem Dk.one_put (c : List UInt8) (m : Nat) : put ⟨s,c,m⟩ [⟨s,b,k⟩] = [⟨s,c,m⟩] := by
 unfold put
 rw [if_pos (one_has s b k),one_spot]
 rfl
theorem Dk.none_put : put ⟨s,b,k⟩ [] = [⟨s,b,k⟩] := rfl
theorem Dk.none_own : own s [] = ⟨s,[],0⟩ := rfl
end
def Dk.na : ByteArray := ⟨#[97]⟩
def Dk.tornD (pk : Nat) : List UInt8 := (tear ⟨na,[1,2,3,4,5],3⟩ pk).bs
theorem Dk.run_a1 (s : ByteArray) (hs : nameOk s = true) (zs : List UInt8) (hz : zs.length ≤ 1000) (l : Int) (hl : l ≠ 0) : appD ⟨[],false,l⟩ s zs = (0,⟨[⟨s,zs,0⟩],false,dec l⟩) := by
 unfold appD
 rw [if_neg Bool.false_ne_true,if_neg (by rw [hs]; exact fun z => by cases z),if_neg (by show ¬ 4194304 < 0 + zs.length; omega),if_neg hl,none_own]
 rfl
theorem Dk.run_a2 (s : ByteArray) (hs : nameOk s = true) (b zs : List UInt8) (k : Nat) (hz : b.length + zs.length ≤ 1000) (l : Int) (hl : l ≠ 0) : appD ⟨[⟨s,b,k⟩],false,l⟩ s zs = (0,⟨[⟨s,b ++ zs,k⟩],false,dec l⟩) := by
 unfold appD
 rw [if_neg Bool.false_ne_true,if_neg (by rw [hs]; exact fun z => by cases z),if_neg (by show ¬ 4194304 < (b.length + 0) + zs.length; omega),if_neg hl]
 simp only [one_own,one_put,with']
theorem Dk.run_s (s : ByteArray) (b : List UInt8) (k : Nat) (l : Int) (hl : l ≠ 0) : syncD ⟨[⟨s,b,k⟩],false,l⟩ s = (0,⟨[⟨s,b,b.length⟩],false,dec l⟩) := by
 unfold syncD
 rw [if_neg Bool.false_ne_true,if_neg (by rw [show has s _ = true from one_has s b k]; exact fun z => by cases z),if_neg hl]
 simp only [one_own,one_put,with']
theorem Dk.na_ok : nameOk na = true := by decide
end Go.Proofs.YtlmjeackfepllaaGreatDoor
namespace Go.Proofs.YtlmjeackfepllaaGreatDoor.Wl
open Go.RowKit
open Mem Dk
def writeD (d : D) (n : Nat) (bs : List UInt8) : Int × D := if (appD d (wname n) bs).1 ≠ 0 then appD d (wname n) bs else syncD (appD d (wname n) bs).2 (wname n)
theorem S.wide {P Q : Nat → Prop} {w0 w : World} {p : Nat} {d : D} (h : S P w0 w p d) (k : ∀ b,P b → Q b) (s : ∀ b,Q b → w0.heap.size ≤ b) : S Q w0 w p d := ⟨h.dsk.mono k,s,h.bel⟩
theorem S.nwsub {P : Nat → Prop} {w0 w : World} {p : Nat} {d : D} (h : S P w0 w p d) : ∀ b,nw P w b → w0.heap.size ≤ b := fun b z => z.elim (h.sub b) fun z => Nat.le_trans h.bel.size z
def ChgE (P : Nat → Prop) (w0 w : World) (p : Nat) (x : Int × D) (e : Ending) (w' : World) : Prop := e = .returned (.int .i64 x.1) ∧ S (nw P w) w0 w' p x.2 ∧ UpdQ P w w'
theorem ChgE.since {P Q : Nat → Prop} {w0 w u w' : World} {p : Nat} {d : D} {x : Int × D} {e : Ending} (h0 : S P w0 w p d) (hu : UpdQ P w u) (k : ∀ b,Q b → nw P w b) (h : ChgE Q w0 u p x e w') : ChgE P w0 w p x e w' :=
 ⟨h.1,S.wide h.2.1 (fun b z => z.elim (k b) fun z => .inr (Nat.le_trans hu.size z)) (S.nwsub h0),upd_nw ((hu.mono fun b z => .inl z).trans (h.2.2.mono k))⟩
theorem chg_app {P : Nat → Prop} {w0 w u : World} {p : Nat} {d : D} (h : S P w0 w p d) (hu : Below w.heap.size w u) (s : ByteArray) (hs : s.size ≤ 9223372036854775807) (v : Value) (zs : List UInt8) (ho : By.Own u w.heap.size v zs) (few : d.fs.length < 1000) :
  Calls Tryz.prog 30 #[.pointer (some ⟨p,0,none⟩),.string s,v] u (ChgE P w0 w p (appD d s zs)) := by
 obtain ⟨ao,cap,rfl,hl,hb⟩ := By.own_ls ho
 refine (s_append (h.tight.later hu) s hs ao _ cap zs hl (fun _ ad e z => ?_) few).mono ?_
 ·
  obtain ⟨g,e1,e2⟩ := hb ad e
  subst e1
  exact absurd z.2 (by show ¬ g < w.heap.size; omega)
 ·
  intro e w' z
  exact ChgE.since h (UpdQ.of hu) (fun b z => .inl z.1) z
theorem chg_sync {P : Nat → Prop} {w0 w : World} {p : Nat} {d : D} (h : S P w0 w p d) (s : ByteArray) : Calls Tryz.prog 45 #[.pointer (some ⟨p,0,none⟩),.string s] w (ChgE P w0 w p (syncD d s)) := s_sync h s
set_option maxHeartbeats 4000000 in
theorem wl_write {P : Nat → Prop} {w0 w : World} {g p : Nat} {d : D} (h : S P w0 w p d) (hc : w.cell? ⟨g,0,none⟩ = some (.pointer (some ⟨p,0,none⟩))) (hg : ¬ P g) (n : Nat) (hn : n < 100) (w1 : World) (v : Value) (ps : List (List UInt8)) (hR : Recs w1 w v ps) (hF : Fine ps) (few : d.fs.length < 1000) :
  Calls Tryz.prog 96 #[.pointer (some ⟨g,0,none⟩),.int .i64 (n : Int),v] w (ChgE P w0 w p (writeD d n (frames ps))) := by
 have H := Lib.hid h
 have HC := Lib.hid hc
 have HG := Lib.hid hg
 have CF := Lib.hid (fun u (k : Below w.heap.size w u) => wl_framed v ps w1 u (hR.below k) hF)
 have hsz := wname_size hn
 have CA := Lib.hid (fun (u : World) (vF : Value) (k : Below w.heap.size w u) (ho : By.Own u w.heap.size vF (frames ps)) => chg_app h k (wname n) (by omega) vF (frames ps) ho few)
 have hlt := cell_lt hc
 have HW : Hid (writeD d n (frames ps) = if (appD d (wname n) (frames ps)).1 ≠ 0 then appD d (wname n) (frames ps) else syncD (appD d (wname n) (frames ps)).2 (wname n)) := Lib.hid rfl
 obtain ⟨a,d1,hx⟩ : ∃ a d1,appD d (wname n) (frames ps) = (a,d1) := ⟨_,_,rfl⟩
 rw [hx] at CA HW
 dsimp only at HW
 have HCy : Hid (∀ u,UpdQ P w u → u.cell? ⟨g,0,none⟩ = some (.pointer (some ⟨p,0,none⟩))) := Lib.hid fun u k => (Hd.cell_same (k.block g hlt hg) 0).trans hc
 have lz : ∀ u,Below w.heap.size w u → u.cell? ⟨g,0,none⟩ = some (.pointer (some ⟨p,0,none⟩)) := fun u k => HCy.out u (UpdQ.of k)
 have lb : Hid (Below w.heap.size w w.drew) := Lib.hid (Below.refl _ _).drew
 clear h hg hR hF few hx
 go_enter Tryz.func96,Tryz.ntmps96
 go_wp2_with fail
 go_region_held3 (fun y => y.cell? ⟨g,0,none⟩ = some (.pointer (some ⟨p,0,none⟩))) (first | with_reducible assumption | (apply lz; repeat (first | with_reducible assumption | with_reducible apply Below.drew | with_reducible exact Below.refl _ _)) | fail) (first | (go_at_call 43; refine (wl_name n hn _).mono ?_; rintro e u ⟨rfl,hu⟩; rw [hu]; clear hu u) | (go_at_call 133; refine (CF.out _ (by first | exact lb.out | exact Below.refl _ _)).mono ?_; rintro e u1 ⟨vF,rfl,ho,b1⟩; have s1 := bchain lb.out b1; have t1 := lz _ s1; have C2 := Lib.hid (CA.out u1 vF s1 ho); clear ho b1 CF) | (go_at_call 30; refine C2.out.mono ?_; rintro e u2 hz; have HZ := Lib.hid hz; (obtain ⟨rfl,h2,q2⟩ := hz); have t2 := HCy.out _ q2; dsimp only; clear h2 q2 C2) | fail)
 all_goals
  obtain ⟨_,h2,q2⟩ := HZ.out
  dsimp only at h2
  by_cases ha : a = 0
  ·
   have HE : Hid (writeD d n (frames ps) = syncD d1 (wname n)) := Lib.hid (by rw [HW.out,if_neg (fun z => z ha)])
   have CS := Lib.hid (chg_sync h2 (wname n))
   have HQ := Lib.hid q2
   have HC2 := Lib.hid (fun u (k : UpdQ (nw P w) u2 u) => HCy.out u (upd_nw ((q2.mono fun b z => .inl z).trans k)))
   have lz2 : ∀ u,Below u2.heap.size u2 u → u.cell? ⟨g,0,none⟩ = some (.pointer (some ⟨p,0,none⟩)) := fun u k => HC2.out u (UpdQ.of k)
   subst ha
   obtain ⟨b,d2,hy⟩ : ∃ b d2,syncD d1 (wname n) = (b,d2) := ⟨_,_,rfl⟩
   rw [hy] at CS HE
   have lb2 : Hid (Below u2.heap.size u2 u2.drew) := Lib.hid (Below.refl _ _).drew
   have CS2 : Hid (∀ u,(u = u2 ∨ u = u2.drew) → Calls Tryz.prog 45 #[.pointer (some ⟨p,0,none⟩),.string (wname n)] u (ChgE (nw P w) w0 u2 p (b,d2))) := Lib.hid (fun u (k : u = u2 ∨ u = u2.drew) => k.elim (fun e => e ▸ CS.out) fun e => by
    have := chg_sync (S.later h2 lb2.out) (wname n)
    rw [hy] at this
    subst e
    exact this.mono fun e w' z => ChgE.since h2 (UpdQ.of lb2.out) (fun b z => .inl z) z)
   clear h2 q2 hy CS
   go_wp2_with fail
   go_region_held3 (fun y => y.cell? ⟨g,0,none⟩ = some (.pointer (some ⟨p,0,none⟩))) (first | with_reducible assumption | (apply lz2; repeat (first | with_reducible assumption | with_reducible apply Below.drew | with_reducible exact Below.refl _ _)) | fail) (first | (go_at_call 43; refine (wl_name n hn _).mono ?_; rintro e u ⟨rfl,hu⟩; rw [hu]; clear hu u) | (go_at_call 45; refine (CS2.out _ (by first | exact .inl rfl | exact .inr rfl)).mono ?_; rintro e u3 hz; have HZ3 := Lib.hid hz; (obtain ⟨rfl,h3,q3⟩ := hz); have t3 := HC2.out _ q3; dsimp only; clear h3 q3 CS2) | fail)
   all_goals
    go_wp2_with fail
    go_ret
    rw [HE.out]
    exact ChgE.since H.out HQ.out (fun b z => z) HZ3.out
  ·
   have qa : (a != 0) = true := bne_iff_ne.2 ha
   have HE : Hid (writeD d n (frames ps) = (a,d1)) := Lib.hid (by rw [HW.out,if_pos ha])
   clear h2 q2
   go_wp2_with fail
   go_ret
   rw [HE.out]
   exact HZ.out
end Go.Proofs.YtlmjeackfepllaaGreatDoor.Wl
