/- CONTRACTS OF PACKAGE disk: Sync, Remove. -/
import Derived.Test.YtegniklofhopeaaDkT
set_option maxRecDepth 100000
set_option linter.unusedVariables false
namespace Go.Proofs.Ytegniklofhopeaa
open Go.RowKit
open Mem Dk

/-- what a change answers, and the disk behind it -/
def Dk.OpE (P : Nat → Prop) (w : World) (p : Nat) (x : Int × D) (e : Ending) (w' : World) : Prop := e = .returned (.int .i64 x.1) ∧ Dsk (nw P w) w' p x.2 ∧ UpdQ P w w'
section
variable {P : Nat → Prop} {w u : World} {p : Nat} {d : D} {v : Sl} {L : Int} {rs : List Fl.T} {s : ByteArray}
theorem Dk.OpE.since {x : Int × D} {e : Ending} {w' : World} (h : OpE P u p x e w') (k : UpdQ P w u) : OpE P w p x e w' :=
  ⟨h.1, h.2.1.mono fun b z => z.imp id fun z => Nat.le_trans k.size z, k.trans h.2.2⟩
theorem Dk.opE_same (h : At P w p d v L rs) (n : Int) : OpE P w p (n, d) (.returned (.int .i64 n)) w := ⟨rfl, ⟨v, L, rs, h.mono fun b z => .inl z⟩, UpdQ.refl _ _⟩
theorem Dk.row_own (h : At P w p d v L rs) (hh : has s d.fs = true) : ∃ hk : spot s d.fs < rs.length, rs[spot s d.fs].name = s ∧ rs[spot s d.fs].kept = ((own s d.fs).kept : Int) ∧ By.Own w 0 (sl rs[spot s d.fs].bytes) (own s d.fs).bs := by
  have hf := spot_lt h.ok.sorted hh
  have hk : spot s d.fs < rs.length := h.each.len ▸ hf
  refine ⟨hk, ?_, ?_, ?_⟩
  · rw [h.each.name _ hk]
    exact spot_name h.ok.sorted hh
  · rw [own_at h.ok.sorted hh]
    exact h.each.kept _ hk
  · rw [own_at h.ok.sorted hh]
    exact h.each.own _ hk
theorem Dk.put_at {f : F} {l : List F} (h : has f.name l = true) : put f l = l.set (Dk.spot f.name l) f := if_pos h
theorem Dk.put_ok_own (h : Ok d) (hh : has s d.fs = true) {bs : List UInt8} {k : Nat} (hk : k ≤ bs.length) (hb : bs.length ≤ (own s d.fs).bs.length) : Ok ⟨put ⟨s, bs, k⟩ d.fs, d.off, d.left⟩ := by
  have hn := h.names _ (own_mem h.sorted hh)
  rw [own_name h.sorted] at hn
  have ht := total_put (f := ⟨s, bs, k⟩) h.sorted
  have hr := h.room
  exact put_ok h hk hn (by simp only at ht; omega)
/-- the row of a name turned in place, its bytes its own still -/
theorem Dk.row_put (h : At P w p d v L rs) (hh : has s d.fs = true) {r' : Fl.T} {bs : List UInt8} {k : Nat} (rows : Fl.Own u 0 (sl v) (rs.set (spot s d.fs) r')) (one : One u r' ⟨s, bs, k⟩) (hu : UpdQ P w u) (hu2 : ∀ hk : spot s d.fs < rs.length, UpdQ (fun b => (sl v).ownBlock = some b ∨ (sl rs[spot s d.fs].bytes).ownBlock = some b) w u)
    (hb : ∀ hk : spot s d.fs < rs.length, (sl r'.bytes).ownBlock = (sl rs[spot s d.fs].bytes).ownBlock ∨ ∃ g, (sl r'.bytes).ownBlock = some g ∧ w.heap.size ≤ g) (ok : Ok ⟨put ⟨s, bs, k⟩ d.fs, d.off, d.left⟩) : OpE P w p (0, ⟨put ⟨s, bs, k⟩ d.fs, d.off, d.left⟩) (.returned (.int .i64 0)) u := by
  obtain ⟨hk, _⟩ := row_own h hh
  rw [put_at (f := ⟨s, bs, k⟩) hh] at ok ⊢
  exact ⟨rfl, ⟨v, L, _, Dk.At.row h hk rows one (hu2 hk) (hb hk) ok⟩, hu⟩
/-- of a change of the rows alone -/
theorem Dk.At.pq (h : At P w p d v L rs) {g : Nat} (hg : (sl v).ownBlock = some g) : P g := (h.pv g hg).1
theorem Dk.sl_eq {g : Nat} (h : v.ao = some ⟨g, 0, none⟩) : sl v = .slice (some ⟨g, 0, none⟩) v.n v.cap := by
  unfold sl
  rw [h]
theorem Dk.sync_done (h : At P w p d v L rs) (hh : has s d.fs = true) {g : Nat} (hv : v.ao = some ⟨g, 0, none⟩) (hk : spot s d.fs < rs.length) :
    OpE P w p (0, ⟨put ⟨s, (own s d.fs).bs, (own s d.fs).bs.length⟩ d.fs, d.off, d.left⟩) (.returned (.int .i64 0)) (w.setCell ⟨g, spot s d.fs * 3 + 2, none⟩ (.int .i64 (rs[spot s d.fs].bytes.n : Int))) := by
  obtain ⟨_, h1, h2, h3⟩ := row_own h hh
  have hg : (sl v).ownBlock = some g := by rw [sl_eq hv]; rfl
  have k1 : UpdQ (fun b => (sl v).ownBlock = some b) w (w.setCell ⟨g, spot s d.fs * 3 + 2, none⟩ (.int .i64 (rs[spot s d.fs].bytes.n : Int))) := UpdQ.set (Q := fun b => (sl v).ownBlock = some b) w hg _ _
  have hr := h.rows
  rw [sl_eq hv] at hr
  have h4 := Fl.own_put hr (spot s d.fs) 2 hk (by omega) (.int .i64 (rs[spot s d.fs].bytes.n : Int)) ⟨rs[spot s d.fs].name, rs[spot s d.fs].bytes, (rs[spot s d.fs].bytes.n : Int)⟩ rfl
  rw [← sl_eq hv] at h4
  refine row_put h hh h4 ⟨h1, ?_, k1.rows h3 fun b e z => (h.pb _ hk b e).2.2 z⟩ (k1.mono fun b z => (h.pv b z).1) (fun _ => k1.mono fun b z => .inl z) (fun _ => .inl rfl) (put_ok_own h.ok hh (Nat.le_refl _) (Nat.le_refl _))
  show (rs[spot s d.fs].bytes.n : Int) = ((own s d.fs).bs.length : Int)
  rw [(Dk.own_n h3).1]
set_option maxHeartbeats 2000000 in
theorem dk_sync (h : At P w p d v L rs) (s : ByteArray) : Calls Try.prog 12 #[.pointer (some ⟨p, 0, none⟩), .string s] w (OpE P w p (syncD d s)) := by
  have H := Lib.hid h
  have HF := Lib.hid (dk_find h s)
  clear h
  go_enter Try.func12, Try.ntmps12
  go_wp2_with (go_at_call 37; refine HF.out.mono ?_)
  rintro e W1 ⟨rfl, b1⟩
  have h1 := H.out.below b1
  obtain ⟨c0, c1, c2, c3⟩ := h1.box.cells
  have H1 := Lib.hid h1
  have HB := Lib.hid (UpdQ.of (Q := P) b1)
  have HSp := Lib.hid (dk_spend h1)
  clear HF h1 b1 H
  cases hoff : d.off
  · rw [hoff] at c1
    cases hh : has s d.fs
    · have HE : Hid (OpE P w p (syncD d s) (.returned (.int .i64 11)) W1) := Lib.hid (by
        unfold syncD
        rw [if_neg (by rw [hoff]; exact Bool.false_ne_true), if_pos hh]
        exact (opE_same H1.out 11).since HB.out)
      clear hoff hh
      go_wp2_with fail
      go_ret
      exact HE.out
    · have HH := Lib.hid hh
      have HOf := Lib.hid hoff
      clear hoff hh
      go_wp2_with (go_at_call 36; refine HSp.out.mono ?_)
      rintro e W2 ⟨hE, u2⟩
      have HB2 := Lib.hid (HB.out.trans (u2.mono (R := P) fun b z => z ▸ H1.out.pp))
      clear HSp u2 c0 c1 c2 c3
      rcases hE with ⟨hl, rfl, L', h2⟩ | ⟨hl, rfl, L', h2⟩
      · obtain ⟨hk, -⟩ := row_own h2 (show has s (spent d).fs = true from HH.out)
        have hk' : spot s d.fs < rs.length := hk
        have hn := h2.n
        obtain ⟨g, hv, -⟩ := Dk.At.spot h2 (by omega)
        have hbn : rs[spot s d.fs].bytes.n ≤ 9223372036854775807 := by have := Dk.own_n (h2.each.own _ hk'); omega
        have HK := Lib.hid (fl_keep W2 g v.n v.cap rs (spot s d.fs) (sl_eq hv ▸ h2.rows) hk' hbn)
        have HE : Hid (OpE P w p (syncD d s) (.returned (.int .i64 0)) (W2.setCell ⟨g, spot s d.fs * 3 + 2, none⟩ (.int .i64 (rs[spot s d.fs].bytes.n : Int)))) := Lib.hid (by
          unfold syncD
          rw [if_neg (by rw [HOf.out]; exact Bool.false_ne_true), if_neg (by rw [HH.out]; exact Bool.true_eq_false.mp ∘ id), if_neg hl]
          exact (sync_done h2 HH.out hv hk).since HB2.out)
        obtain ⟨c0, c1, c2, c3⟩ := h2.box.cells
        rw [hv] at c0
        have hsn : spot s d.fs < v.n := by omega
        generalize rs[spot s d.fs].bytes.n = bn at HK HE hbn
        generalize spot s d.fs = sp at HK HE hsn ⊢
        clear h2 hk hk' hn hv
        go_wp2_with (go_at_call 39; refine HK.out.mono ?_; rintro e W3 ⟨rfl, rfl⟩)
        go_ret
        exact HE.out
      · have HE : Hid (OpE P w p (syncD d s) (.returned (.int .i64 18)) W2) := Lib.hid (by
          unfold syncD
          rw [if_neg (by rw [HOf.out]; exact Bool.false_ne_true), if_neg (by rw [HH.out]; exact Bool.true_eq_false.mp ∘ id), if_pos hl]
          exact (opE_same h2 18).since HB2.out)
        clear h2 hl
        go_wp2_with fail
        go_ret
        exact HE.out
  · rw [hoff] at c1
    have HE : Hid (OpE P w p (syncD d s) (.returned (.int .i64 18)) W1) := Lib.hid (by
      unfold syncD
      rw [if_pos hoff]
      exact (opE_same H1.out 18).since HB.out)
    clear hoff
    go_wp2_with fail
    go_ret
    exact HE.out
set_option maxHeartbeats 2000000 in
theorem dk_remove (h : At P w p d v L rs) (s : ByteArray) : Calls Try.prog 14 #[.pointer (some ⟨p, 0, none⟩), .string s] w (OpE P w p (remD d s)) := by
  have H := Lib.hid h
  have HF := Lib.hid (dk_find h s)
  clear h
  go_enter Try.func14, Try.ntmps14
  go_wp2_with (go_at_call 37; refine HF.out.mono ?_)
  rintro e W1 ⟨rfl, b1⟩
  have h1 := H.out.below b1
  obtain ⟨c0, c1, c2, c3⟩ := h1.box.cells
  have H1 := Lib.hid h1
  have HB := Lib.hid (UpdQ.of (Q := P) b1)
  have HSp := Lib.hid (dk_spend h1)
  clear HF h1 b1 H
  cases hoff : d.off
  · rw [hoff] at c1
    cases hh : has s d.fs
    · have HE : Hid (OpE P w p (remD d s) (.returned (.int .i64 11)) W1) := Lib.hid (by
        unfold remD
        rw [if_neg (by rw [hoff]; exact Bool.false_ne_true), if_pos hh]
        exact (opE_same H1.out 11).since HB.out)
      clear hoff hh
      go_wp2_with fail
      go_ret
      exact HE.out
    · have HH := Lib.hid hh
      have HOf := Lib.hid hoff
      clear hoff hh
      go_wp2_with (go_at_call 36; refine HSp.out.mono ?_)
      rintro e W2 ⟨hE, u2⟩
      have HB2 := Lib.hid (HB.out.trans (u2.mono (R := P) fun b z => z ▸ H1.out.pp))
      clear HSp u2 c0 c1 c2 c3
      rcases hE with ⟨hl, rfl, L', h2⟩ | ⟨hl, rfl, L', h2⟩
      · have HD := Lib.hid (dk_drop h2 s (show has s (spent d).fs = true from HH.out))
        have HE : Hid (∀ e u, DropE P W2 p (spent d) v L' rs s e u → e = .returned (.tuple #[]) ∧ OpE P w p (remD d s) (.returned (.int .i64 0)) u) := Lib.hid fun e u hD => by
          obtain ⟨rfl, v', h3, _, q3⟩ := hD
          refine ⟨rfl, ?_⟩
          unfold remD
          rw [if_neg (by rw [HOf.out]; exact Bool.false_ne_true), if_neg (by rw [HH.out]; exact Bool.true_eq_false.mp ∘ id), if_neg hl]
          exact OpE.since ⟨rfl, ⟨v', L', _, h3.mono fun b z => .inl z⟩, q3.mono fun b z => z.elim (fun z => z ▸ h2.pp) fun z => (h2.pv b z).1⟩ HB2.out
        have HD' : Hid (Calls Try.prog 40 #[.pointer (some ⟨p, 0, none⟩), .int .i64 (spot s d.fs : Nat)] W2 (DropE P W2 p (spent d) v L' rs s)) := HD
        generalize spot s d.fs = sp at HD' ⊢
        clear h2 HD hl
        go_wp2_with (go_at_call 40; refine HD'.out.mono ?_; rintro e W3 hD; obtain ⟨rfl, hO⟩ := HE.out e W3 hD; have HO := Lib.hid hO; clear hO hD)
        go_ret
        exact HO.out
      · have HE : Hid (OpE P w p (remD d s) (.returned (.int .i64 18)) W2) := Lib.hid (by
          unfold remD
          rw [if_neg (by rw [HOf.out]; exact Bool.false_ne_true), if_neg (by rw [HH.out]; exact Bool.true_eq_false.mp ∘ id), if_pos hl]
          exact (opE_same h2 18).since HB2.out)
        clear h2 hl
        go_wp2_with fail
        go_ret
        exact HE.out
  · rw [hoff] at c1
    have HE : Hid (OpE P w p (remD d s) (.returned (.int .i64 18)) W1) := Lib.hid (by
      unfold remD
      rw [if_pos hoff]
      exact (opE_same H1.out 18).since HB.out)
    clear hoff
    go_wp2_with fail
    go_ret
    exact HE.out
end
end Go.Proofs.Ytegniklofhopeaa
