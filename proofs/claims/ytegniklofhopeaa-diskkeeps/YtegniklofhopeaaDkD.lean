/- CONTRACTS OF PACKAGE disk: Read, Off, a file's tear. -/
import Derived.Test.YtegniklofhopeaaDkW
import Derived.Deep.RegionHeld3
set_option maxRecDepth 100000
set_option linter.unusedVariables false
namespace Go.Proofs.Ytegniklofhopeaa
open Go.RowKit
open Mem Dk

section
variable {P : Nat → Prop} {w u : World} {p : Nat} {d : D} {v : Sl} {L : Int} {rs : List Fl.T} {s : ByteArray}
def Dk.ReadE (w : World) (d : D) (s : ByteArray) (e : Ending) (w' : World) : Prop :=
  Below w.heap.size w w' ∧ ((has s d.fs = false ∧ e = .returned (.tuple #[.slice none 0 0, .bool false])) ∨ (has s d.fs = true ∧ ∃ g, e = .returned (.tuple #[.slice (some ⟨g, 0, none⟩) (own s d.fs).bs.length (own s d.fs).bs.length, .bool true]) ∧ By.Block w' g (own s d.fs).bs ∧ w.heap.size ≤ g))
set_option maxHeartbeats 2000000 in
theorem dk_read (h : At P w p d v L rs) (s : ByteArray) : Calls Try.prog 16 #[.pointer (some ⟨p, 0, none⟩), .string s] w (ReadE w d s) := by
  have H := Lib.hid h
  have HF := Lib.hid (dk_find h s)
  clear h
  cases hh : has s d.fs
  · have HE : Hid (∀ W1, Below w.heap.size w W1 → ReadE w d s (.returned (.tuple #[.slice none 0 0, .bool false])) W1) := Lib.hid fun W1 b1 => ⟨b1, .inl ⟨hh, rfl⟩⟩
    rw [hh] at HF
    clear hh
    generalize Dk.spot s d.fs = sp at HF
    go_enter Try.func16, Try.ntmps16
    go_wp2_with (go_at_call 37; refine HF.out.mono ?_; rintro e W1 ⟨rfl, b1⟩; have HO := Lib.hid (HE.out W1 b1); clear b1)
    go_ret2
    exact HO.out
  · have HP : Hid (∀ W1, Below w.heap.size w W1 → ∃ (g nn cc : Nat) (r : Fl.T) (W2 W3 : World), W1.cell? ⟨p, 0, none⟩ = some (.slice (some ⟨g, 0, none⟩) nn cc) ∧ Dk.spot s d.fs < nn ∧ Fl.At W1 g (Dk.spot s d.fs * 3) r ∧ r.bytes.n ≤ 4194304 ∧ (Instr.makeSlice 27 (.int .i64 (r.bytes.n : Int)) (.int .i64 (r.bytes.n : Int))).run Try.prog W1 = .ok (.slice (some ⟨W1.heap.size, 0, none⟩) r.bytes.n r.bytes.n) W2 ∧ W2.cell? ⟨p, 0, none⟩ = some (.slice (some ⟨g, 0, none⟩) nn cc) ∧ Fl.At W2 g (Dk.spot s d.fs * 3) r ∧ (Builtin.copy_ #[27, 27] 3 #[.slice (some ⟨W1.heap.size, 0, none⟩) r.bytes.n r.bytes.n, .slice r.bytes.ao r.bytes.n r.bytes.cap]).run Try.prog W2 = .ok (goInt r.bytes.n) W3 ∧ ReadE w d s (.returned (.tuple #[.slice (some ⟨W1.heap.size, 0, none⟩) r.bytes.n r.bytes.n, .bool true])) W3) := Lib.hid fun W1 b1 => by
      have h1 := H.out.below b1
      obtain ⟨hk, -, -, r3⟩ := row_own h1 hh
      have hn := h1.n
      obtain ⟨g, hv, -⟩ := Dk.At.spot h1 (by omega)
      have hc := h1.box.cells.1
      rw [hv] at hc
      have hon := (Dk.own_n r3).1
      have hroom := own_room h1.ok s
      have hmax := h1.ok.room
      have hmk := By.make rs[Dk.spot s d.fs].bytes.n (by omega) W1
      obtain ⟨W2, hW2⟩ : ∃ W2, W1.alloc (.cells (By.zeros rs[Dk.spot s d.fs].bytes.n) 5) = W2 := ⟨_, rfl⟩
      have b2 : Below W1.heap.size W1 W2 := hW2 ▸ (Below.refl _ _).alloc (Nat.le_refl _) _
      have hbl : By.Block W2 W1.heap.size (List.replicate rs[Dk.spot s d.fs].bytes.n 0) := hW2 ▸ By.block_made W1 _
      rw [hW2] at hmk
      have h2 := h1.below b2
      have hc2 := h2.box.cells.1
      rw [hv] at hc2
      obtain ⟨_, _, e2, l2, _⟩ := By.own_ls (By.own_below r3 b2)
      unfold sl at e2
      simp only [Value.slice.injEq] at e2
      obtain ⟨W3, hcp, hb3, hbel, hsz⟩ := By.copy W2 W1.heap.size 0 [] [] rs[Dk.spot s d.fs].bytes.n rs[Dk.spot s d.fs].bytes.ao rs[Dk.spot s d.fs].bytes.n rs[Dk.spot s d.fs].bytes.cap (Dk.own s d.fs).bs (by simpa using hbl) rfl hon (by rw [e2.1]; exact l2.seg) (some ⟨W1.heap.size, 0, none⟩) (fun _ => rfl)
      refine ⟨g, v.n, v.cap, rs[Dk.spot s d.fs], W2, W3, hc, by omega, (Fl.own_at (sl_eq hv ▸ h1.rows : Fl.Own W1 0 (.slice (some ⟨g, 0, none⟩) v.n v.cap) rs) _ hk).1, by omega, hmk, hc2, (Fl.own_at (sl_eq hv ▸ h2.rows : Fl.Own W2 0 (.slice (some ⟨g, 0, none⟩) v.n v.cap) rs) _ hk).1, hcp, ?_⟩
      refine ⟨hbel _ w (bchain b1 b2) b1.size, .inr ⟨hh, W1.heap.size, ?_, by simpa using hb3, b1.size⟩⟩
      rw [hon]
    rw [hh] at HF
    clear hh
    generalize Dk.spot s d.fs = sp at HF HP
    go_enter Try.func16, Try.ntmps16
    go_wp2_with (go_at_call 37; refine HF.out.mono ?_)
    rintro e W1 ⟨rfl, b1⟩
    obtain ⟨g, nn, cc, r, W2, W3, c0, hsn, ⟨q0, q1, q2⟩, hbn, hmk, c0', ⟨z0, z1, z2⟩, hcp, hE⟩ := HP.out W1 b1
    have HE := Lib.hid hE
    clear hE HP b1
    go_wp2_with fail
    go_ret2
    exact HE.out
theorem dk_off' (h : At P w p d v L rs) : Calls Try.prog 32 #[.pointer (some ⟨p, 0, none⟩)] w fun e w' => e = .returned (.bool d.off) ∧ w' = w := by
  obtain ⟨c0, c1, c2, c3⟩ := h.box.cells
  clear h
  go_enter Try.func32, Try.ntmps32
  go_wp2
  go_ret
  exact ⟨rfl, rfl⟩
end
end Go.Proofs.Ytegniklofhopeaa
