/- CONTRACTS OF PACKAGE disk: lay. -/
import Derived.Test.YtegniklofhopeaaDkL
set_option maxRecDepth 100000
set_option linter.unusedVariables false
namespace Go.Proofs.Ytegniklofhopeaa
open Go.RowKit
open Mem Dk

theorem dk_clone (s : ByteArray) (w : World) (hs : s.size ≤ 24) : Calls Try.prog 50 #[.string s] w fun e w' => e = .returned (.string s) ∧ Below w.heap.size w w' := by
  have HC := Lib.hid (Try.stringslite_Clone s w (by omega))
  go_enter Try.func50, Try.ntmps50
  go_wp2_with (go_at_call 54; refine HC.out.mono ?_; rintro e w1 ⟨rfl, b1⟩; have HB := Lib.hid b1; clear b1)
  go_ret
  exact ⟨rfl, HB.out⟩
/-- a file that is no disk's row, yet lies with a disk's -/
structure Dk.Loose (P : Nat → Prop) (w : World) (p : Nat) (v : Sl) (rs : List Fl.T) (r : Fl.T) (k : Nat) (bs : List UInt8) : Prop where
  kept : r.kept = (k : Int)
  own : By.Own w 0 (sl r.bytes) bs
  pb : Pb P p (sl v) r
  ap : ∀ x ∈ rs, Ap r x
theorem Fl.block_cells {u : World} {b : Nat} {r : Fl.T} (h : u.heap[b]? = some (Fl.block r)) : Fl.C u b r := by
  refine ⟨?_, ?_, ?_⟩
  all_goals rw [cell_of_row u b _ _ _ _ h]
  all_goals rfl
section
variable {P : Nat → Prop} {w : World} {p : Nat} {d : D} {v : Sl} {L : Int} {rs : List Fl.T}
theorem Dk.At.whole (h : At P w p d v L rs) {u : World} (k : UpdQ (fun b => b = p ∨ (sl v).ownBlock = some b) w u) {r : Fl.T} (hr : r ∈ rs) (g : Nat) (e : (sl r.bytes).ownBlock = some g) : u.heap[g]? = w.heap[g]? := by
  obtain ⟨n, hn, rfl⟩ := List.getElem_of_mem hr
  have h1 := h.pb n hn g e
  exact k.block g (World.ownsRow.lt (h.each.own n hn) g e).2 fun z => z.elim h1.2.1 h1.2.2
def Dk.LayE (P : Nat → Prop) (w : World) (p : Nat) (d : D) (v : Sl) (f : F) (e : Ending) (w' : World) : Prop :=
  e = .returned (.tuple #[]) ∧ Dsk (nw P w) w' p ⟨put f d.fs, d.off, d.left⟩ ∧ UpdQ (fun b => b = p ∨ (sl v).ownBlock = some b) w w'
/-- in the place of one of the same name -/
theorem Dk.lay_set (h : At P w p d v L rs) {r : Fl.T} {k : Nat} {bs : List UInt8} {s : ByteArray} (lo : Loose P w p v rs r k bs) (hk : k ≤ bs.length) (hs : s.size ≤ 24) (hr : total (put ⟨s, bs, k⟩ d.fs) ≤ 4194304) (hh : has s d.fs = true) {u : World} (hu : Below w.heap.size w u) {g : Nat} (hv : (sl v).ownBlock = some g) (ho : Fl.Own u 0 (sl v) rs) :
    Dk.LayE P w p d v ⟨s, bs, k⟩ (.returned (.tuple #[])) (((u.setCell ⟨g, spot s d.fs * 3, none⟩ (.string s)).setCell ⟨g, spot s d.fs * 3 + 1, none⟩ (sl r.bytes)).setCell ⟨g, spot s d.fs * 3 + 2, none⟩ (.int .i64 r.kept)) := by
  have hsp := spot_lt h.ok.sorted hh
  have hgv : v = ⟨some ⟨g, 0, none⟩, v.n, v.cap⟩ := by
    rcases ho.2 with ⟨e, _⟩ | ⟨g', cap, cur, e, _⟩
    · rw [e] at hv
      cases hv
    · have e' := e
      unfold sl at e'
      simp only [Value.slice.injEq] at e'
      rw [e] at hv
      obtain rfl : g' = g := by injection hv
      obtain ⟨a, n, c⟩ := v
      simp only at e'
      rw [e'.1]
  have hle : spot s d.fs < rs.length := h.each.len ▸ hsp
  have h1 : Fl.Own u 0 (.slice (some ⟨g, 0, none⟩) v.n v.cap) rs := by
    rw [hgv] at ho
    exact ho
  have h2 := Fl.own_store h1 (spot s d.fs) hle ⟨s, r.bytes, r.kept⟩
  let Q : Nat → Prop := fun b => b = p ∨ (sl v).ownBlock = some b
  have k1 : UpdQ Q w (((u.setCell ⟨g, spot s d.fs * 3, none⟩ (.string s)).setCell ⟨g, spot s d.fs * 3 + 1, none⟩ (sl r.bytes)).setCell ⟨g, spot s d.fs * 3 + 2, none⟩ (.int .i64 r.kept)) :=
    ((((UpdQ.of hu).trans (UpdQ.set (Q := Q) u (.inr hv) _ _)).trans (UpdQ.set (Q := Q) _ (.inr hv) _ _)).trans (UpdQ.set (Q := Q) _ (.inr hv) _ _))
  have k2 : UpdQ (fun b => (sl v).ownBlock = some b) w (((u.setCell ⟨g, spot s d.fs * 3, none⟩ (.string s)).setCell ⟨g, spot s d.fs * 3 + 1, none⟩ (sl r.bytes)).setCell ⟨g, spot s d.fs * 3 + 2, none⟩ (.int .i64 r.kept)) :=
    ((((UpdQ.of hu).trans (UpdQ.set (Q := fun b => (sl v).ownBlock = some b) u hv _ _)).trans (UpdQ.set (Q := fun b => (sl v).ownBlock = some b) _ hv _ _)).trans (UpdQ.set (Q := fun b => (sl v).ownBlock = some b) _ hv _ _))
  refine ⟨rfl, ⟨v, L, rs.take (spot s d.fs) ++ ([⟨s, r.bytes, r.kept⟩] ++ rs.drop (spot s d.fs + 1)), ?_⟩, k1⟩
  have e := put_set (f := ⟨s, bs, k⟩) h.ok.sorted hh
  have okp := put_ok (f := ⟨s, bs, k⟩) h.ok hk hs hr
  have hlen := put_len_has (f := ⟨s, bs, k⟩) hh
  have few := h.few
  rw [e] at okp hlen ⊢
  refine At.turn h (mr := [⟨s, r.bytes, r.kept⟩]) (mf := [⟨s, bs, k⟩]) (i := spot s d.fs) (j := spot s d.fs + 1) (Nat.le_succ _) (h.box.keep (k2.block p h.box.lt fun z => (h.pv p z).2 rfl)) h.arm ?_ (fun x hx g e => h.whole k1 (cut_mem hx) g e) (EachF.single ⟨rfl, lo.kept, rows_keep lo.own fun g' e' => ?_⟩) (fun b z => .inl z) (fun b e => ⟨.inl (h.pv b e).1, (h.pv b e).2⟩) (fun b e => .inl e) (fun x hx => ?_) (List.pairwise_singleton _ _) (fun m hm x hx => ?_) okp ?_
  · rw [List.set_eq_take_append_cons_drop, if_pos hle] at h2
    have : Fl.Own _ 0 (.slice (some ⟨g, 0, none⟩) v.n v.cap) (rs.take (spot s d.fs) ++ ([⟨s, r.bytes, r.kept⟩] ++ rs.drop (spot s d.fs + 1))) := h2
    rw [hgv]
    exact this
  · have hp := lo.pb g' e'
    exact k1.block g' (World.ownsRow.lt lo.own g' e').2 fun z => z.elim hp.2.1 hp.2.2
  · rw [List.mem_singleton.1 hx]
    exact fun b e => ⟨.inl (lo.pb b e).1, (lo.pb b e).2⟩
  · rw [List.mem_singleton.1 hm]
    exact lo.ap x (cut_mem hx)
  · have hl2 : (put ⟨s, bs, k⟩ d.fs).length ≤ 1000 := by rw [put_len_has (f := ⟨s, bs, k⟩) hh]; exact few
    rw [e] at hl2
    exact hl2
/-- a new one -/
theorem Dk.lay_ins (h : At P w p d v L rs) {r : Fl.T} {k : Nat} {bs : List UInt8} {s : ByteArray} (lo : Loose P w p v rs r k bs) (hk : k ≤ bs.length) (hs : s.size ≤ 24) (hr : total (put ⟨s, bs, k⟩ d.fs) ≤ 4194304) (hh : has s d.fs = false) (few : d.fs.length < 1000) {u u' : World} (hu : Below w.heap.size w u) {x : Sl} (ho : Fl.Own u' 0 (sl x) (rs.take (spot s d.fs) ++ (⟨s, r.bytes, r.kept⟩ : Fl.T) :: rs.drop (spot s d.fs))) (hx : (sl x).ownBlock = (sl v).ownBlock ∨ ∃ g, (sl x).ownBlock = some g ∧ u.heap.size ≤ g) (hq : UpdQ (fun b => (sl v).ownBlock = some b) u u') :
    (u'.frozen? ⟨p, 0, none⟩ = false ∧ ∃ c, u'.cell? ⟨p, 0, none⟩ = some c) ∧ Dk.LayE P w p d v ⟨s, bs, k⟩ (.returned (.tuple #[])) (u'.setCell ⟨p, 0, none⟩ (sl x)) := by
  let Q : Nat → Prop := fun b => b = p ∨ (sl v).ownBlock = some b
  have k0 : UpdQ (fun b => (sl v).ownBlock = some b) w u' := (UpdQ.of hu).trans hq
  have hb := h.box.keep (k0.block p h.box.lt fun z => (h.pv p z).2 rfl)
  have k1 : UpdQ Q w (u'.setCell ⟨p, 0, none⟩ (sl x)) := (k0.mono fun b z => .inr z).trans (UpdQ.set (Q := Q) u' (.inl rfl) 0 _)
  have k2 : UpdQ (fun b => b = p) u' (u'.setCell ⟨p, 0, none⟩ (sl x)) := UpdQ.set (Q := fun b => b = p) u' rfl 0 _
  have hps : p < w.heap.size := h.box.lt
  have hne : ∀ b, (sl x).ownBlock = some b → b ≠ p := fun b e z => by
    rcases hx with hx | ⟨g, hx, hg⟩
    · exact (h.pv b (hx ▸ e)).2 z
    · rw [hx] at e
      obtain rfl : g = b := by injection e
      have := hu.size
      omega
  refine ⟨⟨hb.frozen 0, _, hb.cells.1⟩, rfl, ⟨x, L, rs.take (spot s d.fs) ++ ([⟨s, r.bytes, r.kept⟩] ++ rs.drop (spot s d.fs)), ?_⟩, k1⟩
  have e := put_ins (f := ⟨s, bs, k⟩) hh
  have okp := put_ok (f := ⟨s, bs, k⟩) h.ok hk hs hr
  have hlen : (put ⟨s, bs, k⟩ d.fs).length ≤ 1000 := by have := put_len ⟨s, bs, k⟩ d.fs; omega
  rw [e] at okp hlen ⊢
  refine At.turn h (mr := [⟨s, r.bytes, r.kept⟩]) (mf := [⟨s, bs, k⟩]) (i := spot s d.fs) (j := spot s d.fs) (Nat.le_refl _) (hb.slice x) h.arm (k2.rows ho fun b e z => hne b e z) (fun y hy g e => h.whole k1 (cut_mem hy) g e) (EachF.single ⟨rfl, lo.kept, rows_keep lo.own fun g' e' => ?_⟩) (fun b z => .inl z) (fun b e => ⟨?_, hne b e⟩) (fun b e => ?_) (fun y hy => ?_) (List.pairwise_singleton _ _) (fun m hm y hy => ?_) okp hlen
  · have hp := lo.pb g' e'
    exact k1.block g' (World.ownsRow.lt lo.own g' e').2 fun z => z.elim hp.2.1 hp.2.2
  · rcases hx with hx | ⟨g, hx, hg⟩
    · exact .inl (h.pv b (hx ▸ e)).1
    · rw [hx] at e
      obtain rfl : g = b := by injection e
      exact .inr (Nat.le_trans hu.size hg)
  · rcases hx with hx | ⟨g, hx, hg⟩
    · exact .inl (hx ▸ e)
    · rw [hx] at e
      obtain rfl : g = b := by injection e
      exact .inr (Nat.le_trans hu.size hg)
  · rw [List.mem_singleton.1 hy]
    intro b e
    have hp := lo.pb b e
    refine ⟨.inl hp.1, hp.2.1, fun z => ?_⟩
    rcases hx with hx | ⟨g, hx, hg⟩
    · exact hp.2.2 (hx ▸ z)
    · rw [hx] at z
      obtain rfl : g = b := by injection z
      have h1 := (World.ownsRow.lt lo.own g e).2
      have := hu.size
      omega
  · rw [List.mem_singleton.1 hm]
    exact lo.ap y (cut_mem hy)
set_option maxHeartbeats 4000000 in
theorem dk_lay (h : At P w p d v L rs) (r : Fl.T) (k : Nat) (bs : List UInt8) (s : ByteArray) (lo : Loose P w p v rs r k bs) (hk : k ≤ bs.length) (hs : s.size ≤ 24) (hr : total (put ⟨s, bs, k⟩ d.fs) ≤ 4194304) (few : d.fs.length < 1000) :
    Calls Try.prog 38 #[.pointer (some ⟨p, 0, none⟩), .agg #[.string r.name, .slice r.bytes.ao r.bytes.n r.bytes.cap, .int .i64 r.kept], .string s] w (Dk.LayE P w p d v ⟨s, bs, k⟩) := by
  obtain ⟨W1, hW1⟩ : ∃ W1, w.alloc (.cells #[.string r.name, .slice r.bytes.ao r.bytes.n r.bytes.cap, .int .i64 r.kept] 67) = W1 := ⟨_, rfl⟩
  have hb1 : Below w.heap.size w W1 := hW1 ▸ (Below.refl _ _).alloc (Nat.le_refl _) _
  have hx1 : W1.heap[w.heap.size]? = some (Fl.block r) := hW1 ▸ heap_alloc_new w _
  have hlt1 : w.heap.size < W1.heap.size := (Array.getElem?_eq_some_iff.1 hx1).1
  have H := Lib.hid h
  have HLo := Lib.hid lo
  have HCl := Lib.hid (dk_clone s W1 hs)
  have HFin : Hid (∀ W2, Below W1.heap.size W1 W2 → W2.frozen? ⟨w.heap.size, 0, none⟩ = false ∧ (∃ c, W2.cell? ⟨w.heap.size, 0, none⟩ = some c) ∧ (W2.setCell ⟨w.heap.size, 0, none⟩ (.string s)).heap[w.heap.size]? = some (Fl.block ⟨s, r.bytes, r.kept⟩) ∧ Below w.heap.size w (W2.setCell ⟨w.heap.size, 0, none⟩ (.string s))) := Lib.hid fun W2 h2 => by
    have hx2 := (h2.block _ hlt1).trans hx1
    exact ⟨frozen_of_row W2 _ 0 _ _ hx2, ⟨_, (Fl.block_cells hx2).1⟩, (heap_setCell_same W2 _ 0 _ _ _ hx2).trans rfl, (bchain hb1 h2).setCell (Nat.le_refl _) _⟩
  clear h lo hb1 hx1 hlt1
  go_enter Try.func38, Try.ntmps38
  go_wp2_with (go_at_call 50; refine HCl.out.mono ?_)
  rintro e W2 ⟨rfl, h2⟩
  obtain ⟨g0, ⟨c, g1⟩, g2, g3⟩ := HFin.out W2 h2
  obtain ⟨W3, hW3⟩ : ∃ W3, W2.setCell ⟨w.heap.size, 0, none⟩ (.string s) = W3 := ⟨_, rfl⟩
  rw [hW3] at g2 g3
  have HX3 := Lib.hid g2
  have HB3 := Lib.hid g3
  have HF := Lib.hid (dk_find (H.out.below g3) s)
  clear h2 g2 g3 hW1 HFin HCl
  go_wp2_with (go_at_call 37; refine HF.out.mono ?_)
  rintro e W4 ⟨rfl, h4⟩
  have HX4 := Lib.hid ((h4.block _ (Array.getElem?_eq_some_iff.1 HX3.out).1).trans HX3.out)
  have HB4 := Lib.hid (bchain HB3.out h4)
  have ha := Fl.block_cells HX4.out
  have a0 : W4.cell? ⟨w.heap.size, 0, none⟩ = some (.string s) := ha.1
  have a1 : W4.cell? ⟨w.heap.size, 1, none⟩ = some (.slice r.bytes.ao r.bytes.n r.bytes.cap) := ha.2.1
  have a2 : W4.cell? ⟨w.heap.size, 2, none⟩ = some (.int .i64 r.kept) := ha.2.2
  clear ha
  have h4' := H.out.below HB4.out
  obtain ⟨c0, c1, c2, c3⟩ := h4'.box.cells
  have HA4 := Lib.hid h4'
  clear g0 g1 hW3 HX3 HB3 HF h4 h4'
  cases hh : has s d.fs
  · have HH := Lib.hid hh
    have hn := H.out.n
    have hsp := spot_le s d.fs
    obtain ⟨ao, n, cap⟩ := v
    simp only at hn c0
    have hI := Lib.hid (Fl.insert_any (W4.drew.alloc (Fl.block ⟨s, r.bytes, r.kept⟩)) ao n cap W4.heap.size (spot s d.fs) rs ⟨s, r.bytes, r.kept⟩ (Fl.own_alloc (Fl.own_drew HA4.out.rows) _) H.out.shorts (heap_alloc_new W4.drew _) (fun b e z => by
      have h1 := (World.ownsRow.lt HA4.out.rows b e).2
      omega) (by omega) (by rw [hn.1]; omega))
    have HLi : Hid (∀ u' (x : Sl), Fl.InsE (W4.drew.alloc (Fl.block ⟨s, r.bytes, r.kept⟩)) (.slice ao n cap) rs (spot s d.fs) ⟨s, r.bytes, r.kept⟩ (.returned (sl x)) u' → (u'.frozen? ⟨p, 0, none⟩ = false ∧ ∃ c, u'.cell? ⟨p, 0, none⟩ = some c) ∧ Dk.LayE P w p d ⟨ao, n, cap⟩ ⟨s, bs, k⟩ (.returned (.tuple #[])) (u'.setCell ⟨p, 0, none⟩ (sl x))) := Lib.hid fun u' x hi => by
      obtain ⟨v', e1, o1, x1, q1⟩ := hi
      cases e1
      exact Dk.lay_ins H.out HLo.out hk hs hr HH.out few (bchain HB4.out ((Below.refl _ _).drew.alloc (Nat.le_refl _) _)) o1 x1 q1
    have hpl : p < W4.heap.size := HA4.out.box.lt
    generalize spot s d.fs = sp at hI HLi hsp
    have hsm : sp ≤ 1000 := by omega
    clear hn hh HX4
    go_wp2_with fail
    go_region_with (go_at_call 51; refine hI.out.mono ?_; rintro e u' hE; obtain ⟨v', rfl, o1, x1, q1⟩ := hE; obtain ⟨x, rfl⟩ := own_sl o1; obtain ⟨⟨e1, c, e2⟩, e3⟩ := HLi.out u' x ⟨_, rfl, o1, x1, q1⟩; have HE := Lib.hid e3; clear o1 x1 q1 e3; unfold sl at HE ⊢)
    all_goals go_wp2_with fail
    all_goals go_end0
    all_goals exact HE.out
  · have HH := Lib.hid hh
    have hsp := spot_lt H.out.ok.sorted hh
    have hn := H.out.n
    have hle : spot s d.fs < rs.length := by omega
    obtain ⟨ao, n, cap⟩ := v
    obtain ⟨g, rfl⟩ : ∃ g, ao = some ⟨g, 0, none⟩ := by
      rcases HA4.out.rows.2 with ⟨e, e2⟩ | ⟨g, cap', cur, e, _⟩
      · omega
      · unfold sl at e
        simp only [Value.slice.injEq] at e
        exact ⟨g, e.1⟩
    simp only at hn c0
    obtain ⟨⟨q0, q1, q2⟩, qf, _⟩ := Fl.own_at (HA4.out.rows : Fl.Own W4 0 (.slice (some ⟨g, 0, none⟩) n cap) rs) (spot s d.fs) hle
    have f0 := qf (spot s d.fs * 3)
    have f1 := qf (spot s d.fs * 3 + 1)
    have f2 := qf (spot s d.fs * 3 + 2)
    have HE := Lib.hid (Dk.lay_set H.out HLo.out hk hs hr HH.out (u := W4.drew) HB4.out.drew (g := g) rfl (Fl.own_drew HA4.out.rows))
    unfold sl at HE
    generalize rs[spot s d.fs] = r0 at q0 q1 q2
    have hspn : spot s d.fs < n := by omega
    generalize spot s d.fs = sp at q0 q1 q2 f0 f1 f2 HE hspn
    clear hn hh HX4 hsp hle qf
    go_wp2_with fail
    go_region
    go_wp2_with fail
    go_end0
    exact HE.out
end
end Go.Proofs.Ytegniklofhopeaa
