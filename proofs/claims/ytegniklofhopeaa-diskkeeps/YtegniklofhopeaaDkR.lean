/- CONTRACTS OF PACKAGE disk: Rename. -/
import Derived.Test.YtegniklofhopeaaDkC
set_option maxRecDepth 100000
set_option linter.unusedVariables false
namespace Go.Proofs.Ytegniklofhopeaa
open Go.RowKit
open Mem Dk

section
variable {P : Nat → Prop} {w u : World} {p : Nat} {d : D} {v : Sl} {L : Int} {rs : List Fl.T} {s t : ByteArray}
theorem Dk.ren_room (h : Ok d) (hh : has s d.fs = true) : total (put ⟨t, (own s d.fs).bs, (own s d.fs).kept⟩ (del s d.fs)) ≤ 4194304 := by
  have h1 := total_put (f := ⟨t, (own s d.fs).bs, (own s d.fs).kept⟩) (del_sorted (s := s) h.sorted)
  have h2 := total_del (spot_lt h.sorted hh)
  rw [← own_at h.sorted hh] at h2
  have h3 := h.room
  simp only at h1
  omega
/-- what stands behind the drop: the rest is a disk, and the file lies loose -/
theorem Dk.dropped (h : At P w p d v L rs) (hh : has s d.fs = true) (hk : spot s d.fs < rs.length) (few : d.fs.length ≤ 1000) {e : Ending} {u : World} (hD : DropE P w p d v L rs s e u) (ht : t.size ≤ 24) :
    e = .returned (.tuple #[]) ∧ UpdQ (fun b => b = p ∨ (sl v).ownBlock = some b) w u ∧ Calls Try.prog 38 #[.pointer (some ⟨p, 0, none⟩), .agg #[.string rs[spot s d.fs].name, .slice rs[spot s d.fs].bytes.ao rs[spot s d.fs].bytes.n rs[spot s d.fs].bytes.cap, .int .i64 rs[spot s d.fs].kept], .string t] u (fun e' u' => e' = .returned (.tuple #[]) ∧ OpE P w p (0, ⟨put ⟨t, (own s d.fs).bs, (own s d.fs).kept⟩ (del s d.fs), d.off, d.left⟩) (.returned (.int .i64 0)) u') := by
  obtain ⟨rfl, v', h3, hv', q3⟩ := hD
  obtain ⟨_, r1, r2, r3⟩ := row_own h hh
  have hpb := h.pb _ hk
  have hlo : Loose P u p v' (rs.take (spot s d.fs) ++ rs.drop (spot s d.fs + 1)) rs[spot s d.fs] (own s d.fs).kept (own s d.fs).bs :=
    ⟨r2, q3.rows r3 fun b e z => z.elim (hpb b e).2.1 (hpb b e).2.2, fun b e => by rw [hv']; exact hpb b e, fun x hx => others h.aps hk hx⟩
  have hdl := del_len h.ok.sorted hh
  have hq : UpdQ P w u := q3.mono fun b z => z.elim (fun z => z ▸ h.pp) fun z => (h.pv b z).1
  refine ⟨rfl, q3, (dk_lay h3 rs[spot s d.fs] _ _ t hlo (own_kept h.ok s) ht (ren_room h.ok hh) (by show (del s d.fs).length < 1000; omega)).mono ?_⟩
  rintro e u' ⟨rfl, h4, q4⟩
  refine ⟨rfl, OpE.since ⟨rfl, h4, q4.mono fun b z => ?_⟩ hq⟩
  rcases z with z | z
  · exact z ▸ h.pp
  · exact (h.pv b (hv' ▸ z)).1
set_option maxHeartbeats 4000000 in
theorem dk_rename (h : At P w p d v L rs) (s t : ByteArray) (ht : t.size ≤ 9223372036854775807) : Calls Try.prog 13 #[.pointer (some ⟨p, 0, none⟩), .string s, .string t] w (OpE P w p (renD d s t)) := by
  have H := Lib.hid h
  have HF := Lib.hid (dk_find h s)
  have HNm := Lib.hid fun W => dk_named t W ht
  clear h
  go_enter Try.func13, Try.ntmps13
  go_wp2_with (go_at_call 37; refine HF.out.mono ?_)
  rintro e W1 ⟨rfl, b1⟩
  have h1 := H.out.below b1
  obtain ⟨c0, c1, c2, c3⟩ := h1.box.cells
  have H1 := Lib.hid h1
  have HB := Lib.hid (UpdQ.of (Q := P) b1)
  have HSp := Lib.hid (dk_spend h1)
  clear HF h1 b1 H
  cases hoff : d.off
  · rw [hoff] at c1
    have no : Hid (¬ d.off = true) := Lib.hid (by rw [hoff]; exact Bool.false_ne_true)
    clear hoff
    cases hno : nameOk t
    · have HE : Hid (OpE P w p (renD d s t) (.returned (.int .i64 19)) W1) := Lib.hid (by
        unfold renD
        rw [if_neg no.out, if_pos hno]
        exact (opE_same H1.out 19).since HB.out)
      rw [hno] at HNm
      clear hno
      generalize spot s d.fs = sp
      generalize has s d.fs = hb
      go_wp2_with (go_at_call 35; refine (HNm.out _).mono ?_; rintro e u ⟨rfl, rfl⟩)
      go_ret
      exact HE.out
    · have nn : Hid (¬ nameOk t = false) := Lib.hid (by rw [hno]; exact fun z => by cases z)
      have HTs := Lib.hid (name_size hno)
      rw [hno] at HNm
      clear hno
      cases hh : has s d.fs
      · have HE : Hid (OpE P w p (renD d s t) (.returned (.int .i64 11)) W1) := Lib.hid (by
          unfold renD
          rw [if_neg no.out, if_neg nn.out, if_pos hh]
          exact (opE_same H1.out 11).since HB.out)
        clear hh
        generalize spot s d.fs = sp
        go_wp2_with (go_at_call 35; refine (HNm.out _).mono ?_; rintro e u ⟨rfl, rfl⟩)
        go_ret
        exact HE.out
      · have HH := Lib.hid hh
        have nh : Hid (¬ has s d.fs = false) := Lib.hid (by rw [hh]; exact fun z => by cases z)
        clear hh
        go_wp2_with (first | (go_at_call 35; refine (HNm.out _).mono ?_; rintro e u ⟨rfl, rfl⟩) | (go_at_call 36; refine HSp.out.mono ?_))
        rintro e W2 ⟨hE, u2⟩
        have HB2 := Lib.hid (HB.out.trans (u2.mono (R := P) fun b z => z ▸ H1.out.pp))
        clear u2 c0 c1 c2 c3
        rcases hE with ⟨hl, rfl, L', h2⟩ | ⟨hl, rfl, L', h2⟩
        · obtain ⟨hk, -⟩ := row_own h2 (show has s (spent d).fs = true from HH.out)
          have hk' : spot s d.fs < rs.length := hk
          have hn := h2.n
          obtain ⟨g, hv, hvg⟩ := Dk.At.spot h2 (by omega)
          obtain ⟨⟨q0, q1, q2⟩, -, -⟩ := Fl.own_at (sl_eq hv ▸ h2.rows : Fl.Own W2 0 (.slice (some ⟨g, 0, none⟩) v.n v.cap) rs) (spot s d.fs) hk'
          obtain ⟨c0, c1, c2, c3⟩ := h2.box.cells
          rw [hv] at c0
          have hsn : spot s d.fs < v.n := by omega
          obtain ⟨W3, hW3⟩ : ∃ W3, W2.alloc (.cells #[.string rs[spot s d.fs].name, .slice rs[spot s d.fs].bytes.ao rs[spot s d.fs].bytes.n rs[spot s d.fs].bytes.cap, .int .i64 rs[spot s d.fs].kept] 67) = W3 := ⟨_, rfl⟩
          have b3 : Below W2.heap.size W2 W3 := hW3 ▸ (Below.refl _ _).alloc (Nat.le_refl _) _
          have x3 : W3.heap[W2.heap.size]? = some (Fl.block rs[spot s d.fs]) := hW3 ▸ heap_alloc_new W2 _
          have l3 : W2.heap.size < W3.heap.size := (Array.getElem?_eq_some_iff.1 x3).1
          have h3 := h2.below b3
          have HD := Lib.hid (dk_drop h3 s (show has s (spent d).fs = true from HH.out))
          have HD' : Hid (Calls Try.prog 40 #[.pointer (some ⟨p, 0, none⟩), .int .i64 (spot s d.fs : Nat)] W3 (DropE P W3 p (spent d) v L' rs s)) := HD
          have HE : Hid (∀ e u, DropE P W3 p (spent d) v L' rs s e u → e = .returned (.tuple #[]) ∧ Fl.C u W2.heap.size rs[spot s d.fs] ∧ Calls Try.prog 38 #[.pointer (some ⟨p, 0, none⟩), .agg #[.string rs[spot s d.fs].name, .slice rs[spot s d.fs].bytes.ao rs[spot s d.fs].bytes.n rs[spot s d.fs].bytes.cap, .int .i64 rs[spot s d.fs].kept], .string t] u (fun e' u' => e' = .returned (.tuple #[]) ∧ OpE P w p (renD d s t) (.returned (.int .i64 0)) u')) := Lib.hid fun e u hD => by
            obtain ⟨e1, q3, hC⟩ := dropped h3 (show has s (spent d).fs = true from HH.out) hk h3.few hD HTs.out
            refine ⟨e1, Fl.block_cells ((q3.block _ l3 fun z => ?_).trans x3), hC.mono ?_⟩
            · rcases z with z | z
              · have := h2.box.lt
                omega
              · have := (World.ownsRow.lt h2.rows _ z).2
                omega
            · rintro e' u' ⟨rfl, hO⟩
              refine ⟨rfl, ?_⟩
              unfold renD
              rw [if_neg no.out, if_neg nn.out, if_neg nh.out, if_neg hl]
              exact (hO.since (UpdQ.of b3)).since HB2.out
          clear h2 h3 hn hv hvg HD x3 l3 hl b3
          generalize rs[spot s d.fs] = r at q0 q1 q2 HE hW3
          generalize spot s d.fs = sp at q0 q1 q2 HD' hsn ⊢
          go_wp2_with (go_at_call 40; refine HD'.out.mono ?_)
          rintro e W4 hD
          obtain ⟨rfl, hC, hL⟩ := HE.out e W4 hD
          have HLy := Lib.hid hL
          unfold Fl.C at hC
          obtain ⟨a0, a1, a2⟩ := hC
          clear HE hD hL hW3 HD' q0 q1 q2 c0 c1 c2 c3
          go_wp2_with (go_at_call 38; refine HLy.out.mono ?_; rintro e W5 ⟨rfl, hO⟩; have HO := Lib.hid hO; clear hO)
          go_ret
          exact HO.out
        · have HE : Hid (OpE P w p (renD d s t) (.returned (.int .i64 18)) W2) := Lib.hid (by
            unfold renD
            rw [if_neg no.out, if_neg nn.out, if_neg nh.out, if_pos hl]
            exact (opE_same h2 18).since HB2.out)
          clear h2 hl
          go_wp2_with fail
          go_ret
          exact HE.out
  · rw [hoff] at c1
    have HE : Hid (OpE P w p (renD d s t) (.returned (.int .i64 18)) W1) := Lib.hid (by
      unfold renD
      rw [if_pos hoff]
      exact (opE_same H1.out 18).since HB.out)
    clear hoff
    go_wp2_with fail
    go_ret
    exact HE.out
end
end Go.Proofs.Ytegniklofhopeaa
