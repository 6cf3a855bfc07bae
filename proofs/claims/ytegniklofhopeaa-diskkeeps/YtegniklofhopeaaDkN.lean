/- CONTRACTS OF PACKAGE disk: Append. -/
import Derived.Test.YtegniklofhopeaaDkR
import Derived.Maps.AppendAt
set_option maxRecDepth 100000
set_option linter.unusedVariables false
namespace Go.Proofs.Ytegniklofhopeaa
open Go.RowKit
open Mem Dk

theorem By.own_sl {w : World} {x : Value} {B : Nat} {M : List UInt8} (h : By.Own w B x M) : ∃ s : Sl, x = sl s := by
  rcases h.2 with ⟨e, _⟩ | ⟨g, cap, cur, e, _⟩
  · exact ⟨⟨none, 0, 0⟩, e⟩
  · exact ⟨⟨_, _, _⟩, e⟩
theorem By.append_run (w : World) (s : Sl) (xs : List UInt8) (h : By.Own w 0 (sl s) xs) (ao : Option Addr) (n cap : Nat) (zs : List UInt8) (hL : By.Ls w ao n cap zs) (hl : xs.length + n ≤ 140737488355328) (ty : TypeId) :
    ∃ (x : Sl) (W : World), (Builtin.append_ #[27, 27] ty #[.slice s.ao s.n s.cap, .slice ao n cap]).run Try.prog w = .ok (.slice x.ao x.n x.cap) W ∧ By.Own W 0 (sl x) (xs ++ zs) ∧ w.grownBy W (sl s).ownBlock ∧ ((sl x).ownBlock = (sl s).ownBlock ∨ (sl x).ownBlock = some w.heap.size) := by
  obtain ⟨i0, hi, hz0, hz1, hz2⟩ := info_parts By.info
  have hmx : maxLen = 9223372036854775807 := rfl
  have hn := hL.len
  cases ao with
  | none =>
    obtain rfl : cap = 0 := hL.nil rfl
    rcases hL.seg with e | ⟨b, off, e, _⟩
    · obtain rfl : n = 0 := by rw [hn, e]; rfl
      have hrun := run_append_owned_none (P := Try.prog) (w := w) 0 27 ty 5 i0 1 Try.underlying27 hi (sl s) _ _ h
      exact ⟨s, w, hrun, by rw [e, List.append_nil]; exact h, ⟨rfl, rfl, rfl, Nat.le_refl _, fun _ _ _ => rfl⟩, .inl rfl⟩
    · cases e
  | some ad =>
    obtain ⟨v', w', hr, h2, h3, _, h5⟩ := run_append_own_at (P := Try.prog) w 0 27 ty 5 i0 (.int .u8 0) 1 1 Try.underlying27 hi hz0 hz1 hz2 rfl (by omega) (sl s) xs.length (xs.map bv) h ad n cap (zs.map bv) (by rw [List.length_map, hn, Nat.mul_one]) (by
      rcases hL.seg with e | ⟨b, off, e, hc⟩
      · rw [e]
        intro j u hu
        simp at hu
      · cases e
        exact fun j u hu => By.news_of hc j u hu) (By.one_cell zs) (by omega) (by omega) (Nat.zero_le _)
    have h2' : By.Own w' 0 v' (xs ++ zs) := by
      unfold By.Own
      rw [List.map_append, List.length_append, ← hn]
      exact h2
    obtain ⟨x, rfl⟩ := By.own_sl h2'
    exact ⟨x, w', hr, h2', h3, h5⟩
theorem By.Ls.keep {Q : Nat → Prop} {w u : World} {ao : Option Addr} {n cap : Nat} {zs : List UInt8} (h : By.Ls w ao n cap zs) (k : UpdQ Q w u) (hQ : zs ≠ [] → ∀ ad, ao = some ad → ¬ Q ad.block) : By.Ls u ao n cap zs := by
  refine ⟨h.len, h.fits, h.reach, h.nil, ?_⟩
  rcases h.seg with e | ⟨b, off, e, hc⟩
  · exact .inl e
  · refine .inr ⟨b, off, e, fun i hi => ?_⟩
    have h1 := hc i hi
    have h2 := k.block b (cell_lt h1) (hQ (List.ne_nil_of_length_pos (by omega)) _ e)
    rw [← h1]
    unfold World.cell?
    simp only
    rw [h2]
/-! ### put, and put again -/
section
variable {P : Nat → Prop} {w u : World} {p : Nat} {d : D} {v : Sl} {L : Int} {rs : List Fl.T} {s : ByteArray}
theorem Dk.put_form {f : F} {l : List F} (hs : Sorted l) : ∃ X, X.length ≤ l.length ∧ ∀ g : F, g.name = f.name → put g l = l.take (Dk.spot f.name l) ++ g :: X := by
  cases h : has f.name l
  · exact ⟨l.drop (Dk.spot f.name l), by rw [List.length_drop]; omega, fun g e => by rw [put_ins (f := g) (by rw [e]; exact h), e]; rfl⟩
  · exact ⟨l.drop (Dk.spot f.name l + 1), by rw [List.length_drop]; omega, fun g e => by rw [put_set (f := g) hs (by rw [e]; exact h), e]; rfl⟩
theorem Dk.put_spot {f : F} {l : List F} (hs : Sorted l) : Dk.spot f.name (put f l) = Dk.spot f.name l ∧ has f.name (put f l) = true ∧ own f.name (put f l) = f := by
  obtain ⟨X, _, hX⟩ := put_form (f := f) hs
  have hl : (l.take (Dk.spot f.name l)).length = Dk.spot f.name l := by rw [List.length_take, Nat.min_eq_left (spot_le _ _)]
  have hlt : Dk.spot f.name l < (put f l).length := by
    rw [hX f rfl, List.length_append, List.length_cons, hl]
    omega
  have he : (put f l)[Dk.spot f.name l] = f := by
    simp only [hX f rfl]
    rw [List.getElem_append_right (by omega)]
    simp only [hl, Nat.sub_self, List.getElem_cons_zero]
  have h1 := one_name (s := f.name) (put_sorted (f := f) hs) hlt (by rw [he])
  have h2 : has f.name (put f l) = true := has_iff.2 ⟨_, hlt, by rw [he]⟩
  refine ⟨h1.symm, h2, ?_⟩
  rw [own_at (put_sorted hs) h2]
  simp only [← h1]
  exact he
theorem Dk.put_put {f g : F} {l : List F} (hs : Sorted l) (e : g.name = f.name) : put g (put f l) = put g l := by
  obtain ⟨X, _, hX⟩ := put_form (f := f) hs
  obtain ⟨h1, h2, _⟩ := put_spot (f := f) hs
  have hl : (l.take (Dk.spot f.name l)).length = Dk.spot f.name l := by rw [List.length_take, Nat.min_eq_left (spot_le _ _)]
  rw [hX g e, put_at (f := g) (by rw [e]; exact h2), e, h1, hX f rfl, List.set_append_right _ _ (by omega), hl, Nat.sub_self, List.set_cons_zero]
/-! ### the bytes put behind -/
theorem Dk.app_done (h : At P w p d v L rs) (hh : has s d.fs = true) {g : Nat} (hv : v.ao = some ⟨g, 0, none⟩) (hk : Dk.spot s d.fs < rs.length) {zs : List UInt8} {x : Sl} {W : World} (o : By.Own W 0 (sl x) ((own s d.fs).bs ++ zs)) (gr : w.grownBy W (sl rs[Dk.spot s d.fs].bytes).ownBlock) (hx : (sl x).ownBlock = (sl rs[Dk.spot s d.fs].bytes).ownBlock ∨ (sl x).ownBlock = some w.heap.size) (hr : total d.fs + zs.length ≤ 4194304) :
    (W.frozen? ⟨g, Dk.spot s d.fs * 3 + 1, none⟩ = false ∧ (∃ c, W.cell? ⟨g, Dk.spot s d.fs * 3 + 1, none⟩ = some c) ∧ W.cell? ⟨p, 0, none⟩ = some (.slice (some ⟨g, 0, none⟩) v.n v.cap)) ∧ OpE P w p (0, ⟨put ⟨s, (own s d.fs).bs ++ zs, (own s d.fs).kept⟩ d.fs, d.off, d.left⟩) (.returned (.int .i64 0)) (W.setCell ⟨g, Dk.spot s d.fs * 3 + 1, none⟩ (.slice x.ao x.n x.cap)) := by
  obtain ⟨_, h1, h2, h3⟩ := row_own h hh
  have hg : (sl v).ownBlock = some g := by rw [sl_eq hv]; rfl
  have hpb := h.pb _ hk
  have q1 : UpdQ (fun b => (sl rs[Dk.spot s d.fs].bytes).ownBlock = some b) w W := UpdQ.grown gr
  let Q : Nat → Prop := fun b => (sl v).ownBlock = some b ∨ (sl rs[Dk.spot s d.fs].bytes).ownBlock = some b
  have k2 : UpdQ (fun b => (sl v).ownBlock = some b) W (W.setCell ⟨g, Dk.spot s d.fs * 3 + 1, none⟩ (.slice x.ao x.n x.cap)) := UpdQ.set (Q := fun b => (sl v).ownBlock = some b) W hg _ _
  have k3 : UpdQ Q w (W.setCell ⟨g, Dk.spot s d.fs * 3 + 1, none⟩ (.slice x.ao x.n x.cap)) := (q1.mono fun b z => .inr z).trans (k2.mono fun b z => .inl z)
  have hr1 : Fl.Own W 0 (sl v) rs := q1.rows h.rows fun b e z => (hpb b z).2.2 e
  rw [sl_eq hv] at hr1
  obtain ⟨⟨c0, c1, c2⟩, cf, _⟩ := Fl.own_at hr1 _ hk
  have hbx := h.box.keep (q1.block p h.box.lt fun z => (hpb p z).2.1 rfl)
  have hc := hbx.cells.1
  rw [hv] at hc
  have h4 := Fl.own_put hr1 (Dk.spot s d.fs) 1 hk (by omega) (.slice x.ao x.n x.cap) ⟨rs[Dk.spot s d.fs].name, x, rs[Dk.spot s d.fs].kept⟩ rfl
  rw [← sl_eq hv] at h4
  have hn : s.size ≤ 24 := by
    have := h.ok.names _ (own_mem h.ok.sorted hh)
    rw [own_name h.ok.sorted] at this
    exact this
  have ht := total_put (f := ⟨s, (own s d.fs).bs ++ zs, (own s d.fs).kept⟩) h.ok.sorted
  simp only [List.length_append] at ht
  have hkp := own_kept h.ok s
  refine ⟨⟨cf _, ⟨_, c1⟩, hc⟩, row_put h hh h4 ⟨h1, h2, k2.rows o fun b e z => ?_⟩ (k3.mono fun b z => z.elim (fun z => (h.pv b z).1) fun z => (hpb b z).1) (fun _ => k3) (fun _ => hx.imp id fun e => ⟨_, e, Nat.le_refl _⟩) (put_ok h.ok (by simp only [List.length_append]; omega) hn (by omega))⟩
  rcases hx with hx | hx
  · exact (hpb b (hx ▸ e)).2.2 z
  · rw [hx] at e
    obtain rfl : w.heap.size = b := by injection e
    have := (World.ownsRow.lt h.rows _ z).2
    omega
theorem Dk.loose_zero (P : Nat → Prop) (w : World) (p : Nat) (v : Sl) (rs : List Fl.T) : Loose P w p v rs Fl.zero 0 [] := ⟨rfl, By.own_nil _ _, fun b e => (by cases e), fun x hx g e => (by cases e)⟩
end
end Go.Proofs.Ytegniklofhopeaa
