/- CONTRACTS OF PACKAGE disk: Cut, Rename. -/
import Derived.Test.YtegniklofhopeaaDkS
set_option maxRecDepth 100000
set_option linter.unusedVariables false
namespace Go.Proofs.Ytegniklofhopeaa
open Go.RowKit
open Mem Dk

section
variable {P : Nat → Prop} {w u : World} {p : Nat} {d : D} {v : Sl} {L : Int} {rs : List Fl.T} {s : ByteArray}
theorem Fl.own_put2 {w : World} {B g n cap : Nat} {M : List Fl.T} (h : Fl.Own w B (.slice (some ⟨g, 0, none⟩) n cap) M) (k : Nat) (hk : k < M.length) (b : Sl) (kp : Int) :
    Fl.Own ((w.setCell ⟨g, k * 3 + 1, none⟩ (.slice b.ao b.n b.cap)).setCell ⟨g, k * 3 + 2, none⟩ (.int .i64 kp)) B (.slice (some ⟨g, 0, none⟩) n cap) (M.set k ⟨M[k].name, b, kp⟩) := by
  have h1 := Fl.own_put h k 1 hk (by omega) (.slice b.ao b.n b.cap) ⟨M[k].name, b, M[k].kept⟩ rfl
  have h2 := Fl.own_put h1 k 2 (by rw [List.length_set]; exact hk) (by omega) (.int .i64 kp) ⟨M[k].name, b, kp⟩ (by rw [List.getElem_set_self]; rfl)
  rw [List.set_set] at h2
  exact h2
theorem Dk.cut_done (h : At P w p d v L rs) (hh : has s d.fs = true) {g : Nat} (hv : v.ao = some ⟨g, 0, none⟩) (hk : spot s d.fs < rs.length) (m : Nat) (hm : m ≤ (own s d.fs).bs.length) :
    OpE P w p (0, ⟨put ⟨s, (own s d.fs).bs.take m, min (own s d.fs).kept m⟩ d.fs, d.off, d.left⟩) (.returned (.int .i64 0)) ((w.setCell ⟨g, spot s d.fs * 3 + 1, none⟩ (.slice rs[spot s d.fs].bytes.ao m rs[spot s d.fs].bytes.cap)).setCell ⟨g, spot s d.fs * 3 + 2, none⟩ (.int .i64 ((min (own s d.fs).kept m : Nat) : Int))) := by
  obtain ⟨_, h1, h2, h3⟩ := row_own h hh
  have hg : (sl v).ownBlock = some g := by rw [sl_eq hv]; rfl
  have k1 : UpdQ (fun b => (sl v).ownBlock = some b) w ((w.setCell ⟨g, spot s d.fs * 3 + 1, none⟩ (.slice rs[spot s d.fs].bytes.ao m rs[spot s d.fs].bytes.cap)).setCell ⟨g, spot s d.fs * 3 + 2, none⟩ (.int .i64 ((min (own s d.fs).kept m : Nat) : Int))) := (UpdQ.set (Q := fun b => (sl v).ownBlock = some b) w hg _ _).trans (UpdQ.set (Q := fun b => (sl v).ownBlock = some b) _ hg _ _)
  have hr := h.rows
  rw [sl_eq hv] at hr
  have h4 := Fl.own_put2 hr (spot s d.fs) hk ⟨rs[spot s d.fs].bytes.ao, m, rs[spot s d.fs].bytes.cap⟩ ((min (own s d.fs).kept m : Nat) : Int)
  rw [← sl_eq hv] at h4
  obtain ⟨o1, o2, _⟩ := By.own_head h3 m hm
  have hl : ((own s d.fs).bs.take m).length = m := by rw [List.length_take]; omega
  exact row_put h hh h4 ⟨h1, rfl, k1.rows o1 fun b e z => (h.pb _ hk b (o2 ▸ e)).2.2 z⟩ (k1.mono fun b z => (h.pv b z).1) (fun _ => k1.mono fun b z => .inl z) (fun _ => .inl o2) (put_ok_own h.ok hh (by rw [hl]; exact Nat.min_le_right _ _) (by rw [hl]; exact hm))
set_option maxHeartbeats 4000000 in
theorem dk_cut (h : At P w p d v L rs) (s : ByteArray) (n : Int) (hn : Fit n) : Calls Try.prog 22 #[.pointer (some ⟨p, 0, none⟩), .string s, .int .i64 n] w (OpE P w p (cutD d s n)) := by
  have H := Lib.hid h
  have HF := Lib.hid (dk_find h s)
  clear h
  go_enter Try.func22, Try.ntmps22
  go_wp2_with (go_at_call 37; refine HF.out.mono ?_)
  rintro e W1 ⟨rfl, b1⟩
  have h1 := H.out.below b1
  obtain ⟨c0, c1, c2, c3⟩ := h1.box.cells
  have H1 := Lib.hid h1
  have HB := Lib.hid (UpdQ.of (Q := P) b1)
  have HSp := Lib.hid (dk_spend h1)
  clear HF h1 b1 H
  cases hoff : d.off
  · rw [hoff] at c1
    have no : Hid (¬ d.off = true) := Lib.hid (by rw [hoff]; exact Bool.false_ne_true)
    clear hoff
    cases hh : has s d.fs
    · have HE : Hid (OpE P w p (cutD d s n) (.returned (.int .i64 11)) W1) := Lib.hid (by
        unfold cutD
        rw [if_neg no.out, if_pos hh]
        exact (opE_same H1.out 11).since HB.out)
      clear hh
      go_wp2_with fail
      go_ret
      exact HE.out
    · have HH := Lib.hid hh
      have nh : Hid (¬ has s d.fs = false) := Lib.hid (by rw [hh]; exact fun z => by cases z)
      obtain ⟨hk, r1, r2, r3⟩ := row_own H1.out hh
      have hnn := H1.out.n
      obtain ⟨g, hv, -⟩ := Dk.At.spot H1.out (by omega)
      rw [hv] at c0
      obtain ⟨⟨q0, q1, q2⟩, -, -⟩ := Fl.own_at (sl_eq hv ▸ H1.out.rows : Fl.Own W1 0 (.slice (some ⟨g, 0, none⟩) v.n v.cap) rs) (spot s d.fs) hk
      have hbn := Dk.own_n r3
      have hln : spot s d.fs < v.n := by omega
      have HN : Hid (rs[spot s d.fs].bytes.n = (Dk.own s d.fs).bs.length) := Lib.hid hbn.1
      have hbm : rs[spot s d.fs].bytes.n ≤ 9223372036854775807 := by omega
      clear hh r1 r2 r3 hnn hbn
      have HEa : Hid ((n < 0 ∨ (rs[spot s d.fs].bytes.n : Int) < n) → OpE P w p (cutD d s n) (.returned (.int .i64 1)) W1) := Lib.hid fun z => by
        unfold cutD
        rw [if_neg no.out, if_neg nh.out, if_pos (by rw [← HN.out]; exact z)]
        exact (opE_same H1.out 1).since HB.out
      by_cases hneg : n < 0
      · have HE := Lib.hid (HEa.out (.inl hneg))
        generalize rs[spot s d.fs] = r at q0 q1 q2 hbm
        generalize spot s d.fs = sp at q0 q1 q2 hln ⊢
        go_wp2_with fail
        go_ret
        exact HE.out
      · by_cases hbig : (rs[spot s d.fs].bytes.n : Int) < n
        · have HE := Lib.hid (HEa.out (.inr hbig))
          clear HEa HN
          generalize rs[spot s d.fs] = r at q0 q1 q2 hbm hbig
          generalize spot s d.fs = sp at q0 q1 q2 hln ⊢
          go_wp2_with fail
          go_ret
          exact HE.out
        · have HFi : Hid (∀ e W2, SpendE P W1 p d v rs e W2 → (e = .returned (.bool true) ∧ (∃ L', Hid (At P W2 p (spent d) v L' rs)) ∧ d.left ≠ 0 ∧ UpdQ P w W2) ∨ (e = .returned (.bool false) ∧ OpE P w p (cutD d s n) (.returned (.int .i64 18)) W2)) := Lib.hid fun e W2 hE => by
            obtain ⟨hE, u2⟩ := hE
            have k2 := HB.out.trans (u2.mono (R := P) fun b z => z ▸ H1.out.pp)
            rcases hE with ⟨hl, rfl, L', h2⟩ | ⟨hl, rfl, L', h2⟩
            · exact .inl ⟨rfl, ⟨L', Lib.hid h2⟩, hl, k2⟩
            · refine .inr ⟨rfl, ?_⟩
              unfold cutD
              rw [if_neg no.out, if_neg nh.out, if_neg (by rw [← HN.out]; exact fun z => z.elim hneg hbig), if_pos hl]
              exact (opE_same h2 18).since k2
          obtain ⟨m, rfl⟩ : ∃ m : Nat, n = (m : Int) := ⟨n.toNat, by omega⟩
          have hm : m ≤ (Dk.own s d.fs).bs.length := by have := HN.out; omega
          have HDone : Hid (∀ W2 L', At P W2 p (spent d) v L' rs → d.left ≠ 0 → UpdQ P w W2 → ∃ kp : Nat, rs[spot s d.fs].kept = (kp : Int) ∧ (∀ u, (Instr.slice 27 (.slice rs[spot s d.fs].bytes.ao rs[spot s d.fs].bytes.n rs[spot s d.fs].bytes.cap) none (some (.int .i64 (m : Int))) none).run Try.prog u = .ok (.slice rs[spot s d.fs].bytes.ao m rs[spot s d.fs].bytes.cap) u) ∧ OpE P w p (cutD d s m) (.returned (.int .i64 0)) ((W2.setCell ⟨g, spot s d.fs * 3 + 1, none⟩ (.slice rs[spot s d.fs].bytes.ao m rs[spot s d.fs].bytes.cap)).setCell ⟨g, spot s d.fs * 3 + 2, none⟩ (.int .i64 ((min kp m : Nat) : Int)))) := Lib.hid fun W2 L' h2 hl k2 => by
            obtain ⟨hk', r1, r2, r3⟩ := row_own h2 (show has s (spent d).fs = true from HH.out)
            refine ⟨(Dk.own s d.fs).kept, r2, (By.own_head r3 m hm).2.2, ?_⟩
            unfold cutD
            rw [if_neg no.out, if_neg nh.out, if_neg (by rw [← HN.out]; exact fun z => z.elim hneg hbig), if_neg hl, Int.toNat_natCast]
            exact (cut_done h2 HH.out hv hk' m hm).since k2
          have HCa : Hid (∀ W2 L', At P W2 p (spent d) v L' rs → d.left ≠ 0 → UpdQ P w W2 → Calls Try.prog 46 #[.pointer (some ⟨g, spot s d.fs * 3, none⟩), .int .i64 (m : Int)] W2 (fun e u => e = .returned (.tuple #[]) ∧ OpE P w p (cutD d s m) (.returned (.int .i64 0)) u)) := Lib.hid fun W2 L' h2 hl k2 => by
            obtain ⟨kp, e1, e2, e3⟩ := HDone.out W2 L' h2 hl k2
            refine (fl_shorten W2 g v.n v.cap rs (spot s d.fs) m (sl_eq hv ▸ h2.rows) hk e2 kp e1).mono ?_
            rintro e u ⟨rfl, rfl⟩
            exact ⟨rfl, e3⟩
          have hbig' : ¬ (rs[spot s d.fs].bytes.n : Int) < (m : Int) := hbig
          clear HDone HEa HN hm hbig
          generalize rs[spot s d.fs] = r at q0 q1 q2 hbm hbig'
          generalize spot s d.fs = sp at q0 q1 q2 hln HCa ⊢
          go_wp2_with (go_at_call 36; refine HSp.out.mono ?_)
          rintro e W2 hE
          rcases HFi.out e W2 hE with ⟨rfl, ⟨L', h2⟩, hl, k2⟩ | ⟨rfl, hO⟩
          · have HC := Lib.hid (HCa.out W2 L' h2.out hl k2)
            obtain ⟨c0, c1, c2, c3⟩ := h2.out.box.cells
            rw [hv] at c0
            clear hE q0 q1 q2 h2 hl k2 HCa HFi HSp
            go_wp2_with (go_at_call 46; refine HC.out.mono ?_; rintro e W3 ⟨rfl, hO⟩; have HO := Lib.hid hO; clear hO)
            go_ret
            exact HO.out
          · have HO := Lib.hid hO
            clear hO hE
            go_wp2_with fail
            go_ret
            exact HO.out
  · rw [hoff] at c1
    have HE : Hid (OpE P w p (cutD d s n) (.returned (.int .i64 18)) W1) := Lib.hid (by
      unfold cutD
      rw [if_pos hoff]
      exact (opE_same H1.out 18).since HB.out)
    clear hoff
    go_wp2_with fail
    go_ret
    exact HE.out
end
end Go.Proofs.Ytegniklofhopeaa
