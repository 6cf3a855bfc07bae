/- CONTRACTS OF PACKAGE disk: Append, walked. -/
import Derived.Test.YtegniklofhopeaaDkN
set_option maxRecDepth 100000
set_option linter.unusedVariables false
namespace Go.Proofs.Ytegniklofhopeaa
open Go.RowKit
open Mem Dk

theorem UpdQ.newer {P : Nat → Prop} {w u u' x : World} (h : UpdQ P w u) (hx : w.heap.size ≤ x.heap.size) (k : UpdQ (nw P x) u u') : UpdQ P w u' :=
  ⟨Nat.le_trans h.size k.size, fun b hb hq => (k.block b (Nat.lt_of_lt_of_le hb h.size) fun z => z.elim hq fun z => by omega).trans (h.block b hb hq), fun w0 a c => k.below w0 (h.below w0 a c) fun b z => z.elim (c b) fun z => Nat.le_trans a.size (Nat.le_trans hx z)⟩
section
variable {P : Nat → Prop} {w u : World} {p : Nat} {d : D} {v : Sl} {L : Int} {rs : List Fl.T} {s : ByteArray}
theorem Dk.OpE.newer {x : World} {y : Int × D} {e : Ending} {w' : World} (h : OpE (nw P x) u p y e w') (hx : w.heap.size ≤ x.heap.size) (k : UpdQ P w u) : OpE P w p y e w' :=
  ⟨h.1, h.2.1.mono fun b z => z.elim (fun z => z.imp id fun z => Nat.le_trans hx z) fun z => .inr (Nat.le_trans k.size z), k.newer hx h.2.2⟩
/-- all that the last step of Append asks -/
theorem Dk.app_step (h : At P w p d v L rs) (hh : has s d.fs = true) {ao : Option Addr} {n cap : Nat} {zs : List UInt8} (hL : By.Ls w ao n cap zs) (hr : total d.fs + zs.length ≤ 4194304) :
    ∃ (g nn cc : Nat) (r : Fl.T) (x : Sl) (W : World), w.cell? ⟨p, 0, none⟩ = some (.slice (some ⟨g, 0, none⟩) nn cc) ∧ Dk.spot s d.fs < nn ∧ Fl.At w g (Dk.spot s d.fs * 3) r ∧ (Builtin.append_ #[27, 27] 27 #[.slice r.bytes.ao r.bytes.n r.bytes.cap, .slice ao n cap]).run Try.prog w.drew = .ok (.slice x.ao x.n x.cap) W ∧
      (W.frozen? ⟨g, Dk.spot s d.fs * 3 + 1, none⟩ = false ∧ (∃ c, W.cell? ⟨g, Dk.spot s d.fs * 3 + 1, none⟩ = some c) ∧ W.cell? ⟨p, 0, none⟩ = some (.slice (some ⟨g, 0, none⟩) nn cc)) ∧ OpE P w p (0, ⟨put ⟨s, (own s d.fs).bs ++ zs, (own s d.fs).kept⟩ d.fs, d.off, d.left⟩) (.returned (.int .i64 0)) (W.setCell ⟨g, Dk.spot s d.fs * 3 + 1, none⟩ (.slice x.ao x.n x.cap)) := by
  obtain ⟨hk, -, -, r3⟩ := row_own h hh
  have hn := h.n
  obtain ⟨g, hv, -⟩ := Dk.At.spot h (by omega)
  have hc := h.box.cells.1
  rw [hv] at hc
  have hd : Below w.heap.size w w.drew := (Below.refl _ _).drew
  have hroom := own_room h.ok s
  have hlen := hL.len
  obtain ⟨x, W, a1, a2, a3, a4⟩ := By.append_run w.drew rs[Dk.spot s d.fs].bytes _ (By.own_below r3 hd) ao n cap zs (hL.below hd) (by omega) 27
  obtain ⟨b1, b2⟩ := app_done (h.below hd) hh hv hk a2 a3 a4 hr
  exact ⟨g, v.n, v.cap, rs[Dk.spot s d.fs], x, W, hc, by omega, (Fl.own_at (sl_eq hv ▸ h.rows : Fl.Own w 0 (.slice (some ⟨g, 0, none⟩) v.n v.cap) rs) _ hk).1, a1, b1, b2.since (UpdQ.of hd)⟩
set_option maxHeartbeats 4000000 in
theorem dk_append (h : At P w p d v L rs) (s : ByteArray) (hs : s.size ≤ 9223372036854775807) (ao : Option Addr) (n cap : Nat) (zs : List UInt8) (hL : By.Ls w ao n cap zs) (hap : zs ≠ [] → ∀ ad, ao = some ad → ¬ P ad.block) (few : d.fs.length < 1000) :
    Calls Try.prog 11 #[.pointer (some ⟨p, 0, none⟩), .string s, .slice ao n cap] w (OpE P w p (appD d s zs)) := by
  have H := Lib.hid h
  have HL := Lib.hid hL
  have HLen := Lib.hid hL.len
  have hcap := hL.reach
  have hfit := hL.fits
  have HNm := Lib.hid fun W => dk_named s W hs
  have HT := Lib.hid (dk_total h)
  obtain ⟨c0, c1, c2, c3⟩ := h.box.cells
  have hroom := h.ok.room
  clear h hL
  cases hoff : d.off
  · rw [hoff] at c1
    have no : Hid (¬ d.off = true) := Lib.hid (by rw [hoff]; exact Bool.false_ne_true)
    clear hoff
    cases hno : nameOk s
    · have HE : Hid (OpE P w p (appD d s zs) (.returned (.int .i64 19)) w) := Lib.hid (by
        unfold appD
        rw [if_neg no.out, if_pos hno]
        exact opE_same H.out 19)
      rw [hno] at HNm
      clear hno
      go_enter Try.func11, Try.ntmps11
      go_wp2_with (go_at_call 35; refine (HNm.out _).mono ?_; rintro e u ⟨rfl, hu⟩; rw [hu]; clear hu u)
      go_ret
      exact HE.out
    · have nn : Hid (¬ nameOk s = false) := Lib.hid (by rw [hno]; exact fun z => by cases z)
      have HTs := Lib.hid (name_size hno)
      rw [hno] at HNm
      clear hno
      by_cases hfull : 4194304 < total d.fs + n
      · have HE : Hid (∀ W, Below w.heap.size w W → OpE P w p (appD d s zs) (.returned (.int .i64 14)) W) := Lib.hid fun W hW => by
          unfold appD
          rw [if_neg no.out, if_neg nn.out, if_pos (by rw [← HLen.out]; exact hfull)]
          exact (opE_same (H.out.below hW) 14).since (UpdQ.of hW)
        generalize total d.fs = tt at HT hfull hroom
        go_enter Try.func11, Try.ntmps11
        go_wp2_with (first | (go_at_call 35; refine (HNm.out _).mono ?_; rintro e u ⟨rfl, hu⟩; rw [hu]; clear hu u) | (go_at_call 19; refine HT.out.mono ?_; rintro e W1 ⟨rfl, b1⟩; have HO := Lib.hid (HE.out W1 b1); clear b1))
        go_ret
        exact HO.out
      · have nf : Hid (¬ 4194304 < total d.fs + zs.length) := Lib.hid (by rw [← HLen.out]; exact hfull)
        have HSp : Hid (∀ W1, Below w.heap.size w W1 → Calls Try.prog 36 #[.pointer (some ⟨p, 0, none⟩)] W1 (fun e W2 => (e = .returned (.bool false) ∧ OpE P w p (appD d s zs) (.returned (.int .i64 18)) W2) ∨ (e = .returned (.bool true) ∧ d.left ≠ 0 ∧ UpdQ P w W2 ∧ ∃ L', At P W2 p (spent d) v L' rs))) := Lib.hid fun W1 b1 => by
          have h1 := H.out.below b1
          refine (dk_spend h1).mono ?_
          rintro e W2 ⟨hE, u2⟩
          have k2 := (UpdQ.of (Q := P) b1).trans (u2.mono (R := P) fun b z => z ▸ h1.pp)
          rcases hE with ⟨hl, rfl, L', h2⟩ | ⟨hl, rfl, L', h2⟩
          · exact .inr ⟨rfl, hl, k2, L', h2⟩
          · refine .inl ⟨rfl, ?_⟩
            unfold appD
            rw [if_neg no.out, if_neg nn.out, if_neg nf.out, if_pos hl]
            exact (opE_same h2 18).since k2
        have HEnd : Hid (∀ o, d.left ≠ 0 → o = (0, with' d (put ⟨s, (Dk.own s d.fs).bs ++ zs, (Dk.own s d.fs).kept⟩ d.fs)) → appD d s zs = o) := Lib.hid fun o hl e => by
          unfold appD
          rw [if_neg no.out, if_neg nn.out, if_neg nf.out, if_neg hl, e]
        obtain ⟨tt, htt⟩ : ∃ tt, total d.fs = tt := ⟨_, rfl⟩
        rw [htt] at HT hfull hroom
        have hft : (n : Int) ≤ 4194304 - (tt : Int) := by omega
        clear htt
        go_enter Try.func11, Try.ntmps11
        go_wp2_with (first | (go_at_call 35; refine (HNm.out _).mono ?_; rintro e u ⟨rfl, hu⟩; rw [hu]; clear hu u) | (go_at_call 19; refine HT.out.mono ?_; rintro e W1 ⟨rfl, b1⟩; have HO := Lib.hid (HSp.out W1 b1); clear b1) | (go_at_call 36; refine HO.out.mono ?_))
        rintro e W2 (⟨rfl, hE⟩ | ⟨rfl, hl, k2, L', h2⟩)
        · have HE := Lib.hid hE
          clear hE
          go_wp2_with fail
          go_ret
          exact HE.out
        · have HF := Lib.hid (dk_find h2 s)
          have HF' : Hid (Calls Try.prog 37 #[.pointer (some ⟨p, 0, none⟩), .string s] W2 fun e w' => e = .returned (.tuple #[.int .i64 (Dk.spot s d.fs : Nat), .bool (has s d.fs)]) ∧ Below W2.heap.size W2 w') := HF
          have H2 := Lib.hid h2
          have HK2 := Lib.hid k2
          have HLf := Lib.hid hl
          clear h2 k2 hl HF c0 c1 c2 c3 HO HSp HT
          go_wp2_with (go_at_call 37; refine HF'.out.mono ?_)
          rintro e W3 ⟨rfl, b3⟩
          have h3 := H2.out.below b3
          have k3 := HK2.out.belowT b3
          have hroom2 : total d.fs + zs.length ≤ 4194304 := by have := nf.out; omega
          cases hh : has s d.fs
          · have HLy := Lib.hid (dk_lay h3 Fl.zero 0 [] s (Dk.loose_zero P W3 p v rs) (Nat.le_refl _) HTs.out (by
              have ht := total_put (f := ⟨s, [], 0⟩) h3.ok.sorted
              have hr3 := h3.ok.room
              simp only [List.length_nil] at ht
              omega) (show d.fs.length < 1000 from few))
            have HFi : Hid (∀ e W4, Dk.LayE P W3 p (spent d) v ⟨s, [], 0⟩ e W4 → e = .returned (.tuple #[]) ∧ ∃ (g nn cc : Nat) (r : Fl.T) (x : Sl) (W : World), W4.cell? ⟨p, 0, none⟩ = some (.slice (some ⟨g, 0, none⟩) nn cc) ∧ Dk.spot s d.fs < nn ∧ Fl.At W4 g (Dk.spot s d.fs * 3) r ∧ (Builtin.append_ #[27, 27] 27 #[.slice r.bytes.ao r.bytes.n r.bytes.cap, .slice ao n cap]).run Try.prog W4.drew = .ok (.slice x.ao x.n x.cap) W ∧
                (W.frozen? ⟨g, Dk.spot s d.fs * 3 + 1, none⟩ = false ∧ (∃ c, W.cell? ⟨g, Dk.spot s d.fs * 3 + 1, none⟩ = some c) ∧ W.cell? ⟨p, 0, none⟩ = some (.slice (some ⟨g, 0, none⟩) nn cc)) ∧ OpE P w p (appD d s zs) (.returned (.int .i64 0)) (W.setCell ⟨g, Dk.spot s d.fs * 3 + 1, none⟩ (.slice x.ao x.n x.cap))) := Lib.hid fun e W4 hE => by
              obtain ⟨rfl, ⟨v4, L4, rs4, h4⟩, q4⟩ := hE
              have k34 : UpdQ P W3 W4 := q4.mono fun b z => z.elim (fun z => z ▸ h3.pp) fun z => (h3.pv b z).1
              have k4 := k3.trans k34
              obtain ⟨s1, s2, s3⟩ := put_spot (f := ⟨s, [], 0⟩) h3.ok.sorted
              have ht := total_put (f := ⟨s, [], 0⟩) h3.ok.sorted
              simp only [List.length_nil] at ht s1 s2 s3
              have ht' : total (put ⟨s, [], 0⟩ d.fs) + zs.length ≤ 4194304 := by
                have e1 : total (put ⟨s, [], 0⟩ d.fs) + (Dk.own s d.fs).bs.length = total d.fs + 0 := ht
                omega
              obtain ⟨g, nn', cc, r, x, W, a1, a2, a3, a4, a5, a6⟩ := app_step (s := s) h4 s2 (HL.out.keep k4 hap) ht'
              have s1' : Dk.spot s (put ⟨s, [], 0⟩ d.fs) = Dk.spot s d.fs := s1
              simp only at a2 a3 a5 a6
              change Dk.spot s (put ⟨s, [], 0⟩ d.fs) < nn' at a2
              rw [show (spent d).fs = d.fs from rfl, s1'] at a3 a5 a6
              rw [s1'] at a2
              refine ⟨rfl, g, nn', cc, r, x, W, a1, a2, a3, a4, a5, ?_⟩
              have hp := put_put (f := ⟨s, [], 0⟩) (g := ⟨s, (Dk.own s (put ⟨s, [], 0⟩ d.fs)).bs ++ zs, (Dk.own s (put ⟨s, [], 0⟩ d.fs)).kept⟩) h3.ok.sorted rfl
              have hp' : put ⟨s, (Dk.own s (put ⟨s, [], 0⟩ d.fs)).bs ++ zs, (Dk.own s (put ⟨s, [], 0⟩ d.fs)).kept⟩ (put ⟨s, [], 0⟩ d.fs) = put ⟨s, (Dk.own s d.fs).bs ++ zs, (Dk.own s d.fs).kept⟩ d.fs := by
                have e3 : Dk.own s (put ⟨s, [], 0⟩ d.fs) = ⟨s, [], 0⟩ := s3
                have hp2 := hp
                rw [show (spent d).fs = d.fs from rfl] at hp2
                rw [hp2, e3, own_no hh]
              rw [HEnd.out _ HLf.out rfl]
              have a6' := a6.newer k3.size k4
              rw [hp'] at a6'
              exact a6'
            clear h3 k3 b3 hh H2 HK2
            generalize Dk.spot s d.fs = sp at HFi ⊢
            go_wp2_with (go_at_call 38; refine HLy.out.mono ?_)
            rintro e W4 hE
            obtain ⟨rfl, g, nn', cc, r, x, W, a1, a2, a3, a4, ⟨a5, ⟨c, a6⟩, a7⟩, a8⟩ := HFi.out e W4 hE
            have HO := Lib.hid a8
            obtain ⟨q0, q1, q2⟩ := a3
            clear hE a8 HFi HLy
            go_wp2_with fail
            go_region_law (refine step_append_run rfl (.tmp 53) (.tmp 54) 27 27 rfl _ _ (by simp [Act.eval]) (by simp [Act.eval]) _ _ a4 ?_)
            all_goals go_wp2_with fail
            all_goals go_ret
            all_goals exact HO.out
          · obtain ⟨g, nn', cc, r, x, W, a1, a2, a3, a4, ⟨a5, ⟨c, a6⟩, a7⟩, a8⟩ := app_step h3 (show has s (spent d).fs = true from hh) (HL.out.keep k3 hap) hroom2
            have HO : Hid (OpE P w p (appD d s zs) (.returned (.int .i64 0)) (W.setCell ⟨g, Dk.spot s d.fs * 3 + 1, none⟩ (.slice x.ao x.n x.cap))) := Lib.hid (by
              rw [HEnd.out _ HLf.out rfl]
              exact a8.since k3)
            obtain ⟨q0, q1, q2⟩ := a3
            change Dk.spot s d.fs < nn' at a2
            change W3.cell? ⟨g, Dk.spot s d.fs * 3, none⟩ = _ at q0
            change W3.cell? ⟨g, Dk.spot s d.fs * 3 + 1, none⟩ = _ at q1
            change W3.cell? ⟨g, Dk.spot s d.fs * 3 + 2, none⟩ = _ at q2
            change W.frozen? ⟨g, Dk.spot s d.fs * 3 + 1, none⟩ = _ at a5
            change W.cell? ⟨g, Dk.spot s d.fs * 3 + 1, none⟩ = _ at a6
            generalize Dk.spot s d.fs = sp at a2 q0 q1 q2 a5 a6 HO ⊢
            clear a8 h3 k3 b3 hh H2 HK2
            go_wp2_with fail
            go_region_law (refine step_append_run rfl (.tmp 53) (.tmp 54) 27 27 rfl _ _ (by simp [Act.eval]) (by simp [Act.eval]) _ _ a4 ?_)
            all_goals go_wp2_with fail
            all_goals go_ret
            all_goals exact HO.out
  · rw [hoff] at c1
    have HE : Hid (OpE P w p (appD d s zs) (.returned (.int .i64 18)) w) := Lib.hid (by
      unfold appD
      rw [if_pos hoff]
      exact opE_same H.out 18)
    clear hoff
    go_enter Try.func11, Try.ntmps11
    go_wp2_with fail
    go_ret
    exact HE.out
end
end Go.Proofs.Ytegniklofhopeaa
