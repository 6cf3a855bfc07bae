/- CONTRACTS OF PACKAGE disk: named, spend, Total, Off, New, Arm. -/
import Derived.Test.YtegniklofhopeaaDkM
import Derived.Test.YtegniklofhopeaaArgsN
import Derived.Lib.QuietBelow
set_option maxRecDepth 100000
set_option linter.unusedVariables false
namespace Go.Proofs.Ytegniklofhopeaa
open Go.RowKit
open Mem Dk

theorem Dk.name_no {s : ByteArray} (h : s.size < 1 ∨ 24 < s.size) : nameOk s = false := by
  unfold nameOk
  rw [decide_eq_false (by omega), Bool.false_and]
theorem Dk.txt_get (s : ByteArray) (k : Nat) (h : k < s.size) : (txt s)[k]? = some s[k] := by
  unfold txt
  rw [Array.getElem?_toList]
  exact Array.getElem?_eq_getElem h
theorem Dk.txt_take (s : ByteArray) (k : Nat) (h : k < s.size) : (txt s).take (k + 1) = (txt s).take k ++ [s[k]] := by
  have hl : k < (txt s).length := by unfold txt; simpa using h
  have e : (txt s)[k] = s[k] := Option.some.inj ((List.getElem?_eq_getElem hl).symm.trans (Dk.txt_get s k h))
  rw [List.take_succ_eq_append_getElem hl, e]
  rfl
set_option maxHeartbeats 1000000 in
theorem dk_named (s : ByteArray) (w : World) (hs : s.size ≤ 9223372036854775807) :
    Calls Try.prog 35 #[.string s] w fun e w' => e = .returned (.bool (nameOk s)) ∧ w' = w := by
  by_cases h1 : s.size < 1
  · have HN := Lib.hid (Dk.name_no (.inl h1))
    go_enter Try.func35, Try.ntmps35
    go_wp2
    go_ret
    exact ⟨ret_bool HN.out.symm, rfl⟩
  by_cases h2 : 24 < s.size
  · have HN := Lib.hid (Dk.name_no (.inr h2))
    go_enter Try.func35, Try.ntmps35
    go_wp2
    go_ret
    exact ⟨ret_bool HN.out.symm, rfl⟩
  have HR : Hid (nameOk s = (txt s).all fun c => decide (33 ≤ c.toNat ∧ c.toNat ≤ 126)) := Lib.hid (by
    unfold nameOk
    rw [decide_eq_true (by omega), Bool.true_and])
  go_enter Try.func35, Try.ntmps35
  go_wp2
  go_loop [3, 14] (fun _ i => ∃ k : Nat, k ≤ s.size ∧ i = .int .i64 k ∧ Hid (((txt s).take k).all (fun c => decide (33 ≤ c.toNat ∧ c.toNat ≤ 126)) = true)) (fun _ i => s.size - (intOf i).toNat)
  case atStart => exact ⟨0, Nat.zero_le _, rfl, Lib.hid rfl⟩
  case round =>
    obtain ⟨k, hk, rfl, HA⟩ := hrel
    by_cases hlt : k < s.size
    · have HT := Lib.hid (Dk.txt_take s k hlt)
      have HG := Lib.hid (Dk.txt_get s k hlt)
      have HNo : Hid (¬ (33 ≤ s[k].toNat ∧ s[k].toNat ≤ 126) → nameOk s = false) := Lib.hid fun z => by
        rw [HR.out, List.all_eq_false]
        exact ⟨s[k], List.mem_of_getElem? HG.out, by simpa using z⟩
      by_cases a1 : (s[k].toNat : Int) < 33
      · have HF := Lib.hid (HNo.out (by omega))
        go_wp2
        go_ret
        exact ⟨ret_bool HF.out.symm, rfl⟩
      · by_cases a2 : (126 : Int) < (s[k].toNat : Int)
        · have HF := Lib.hid (HNo.out (by omega))
          go_wp2
          go_ret
          exact ⟨ret_bool HF.out.symm, rfl⟩
        · have HF : Hid (((txt s).take (k + 1)).all (fun c => decide (33 ≤ c.toNat ∧ c.toNat ≤ 126)) = true) := Lib.hid (by
            rw [HT.out, List.all_append, HA.out, Bool.true_and]
            simp only [List.all_cons, List.all_nil, Bool.and_true]
            exact decide_eq_true (by omega))
          go_wp2
          go_round
          case rel => exact ⟨k + 1, by omega, by go_num, HF⟩
          case measure => simp [intOf]; omega
    · have HF : Hid (nameOk s = true) := Lib.hid (by
        rw [HR.out, ← HA.out, List.take_of_length_le (by unfold txt; simp; omega)])
      go_wp2
      go_ret
      exact ⟨ret_bool HF.out.symm, rfl⟩
section
variable {P : Nat → Prop} {w : World} {p : Nat} {d : D} {v : Sl} {L : Int} {rs : List Fl.T}
/-- what spend answers -/
def Dk.SpendE (P : Nat → Prop) (w : World) (p : Nat) (d : D) (v : Sl) (rs : List Fl.T) (e : Ending) (w' : World) : Prop :=
  ((d.left ≠ 0 ∧ e = .returned (.bool true) ∧ ∃ L', At P w' p (spent d) v L' rs) ∨ (d.left = 0 ∧ e = .returned (.bool false) ∧ ∃ L', At P w' p (down d) v L' rs)) ∧ UpdQ (fun b => b = p) w w'
theorem dk_spend (h : At P w p d v L rs) : Calls Try.prog 36 #[.pointer (some ⟨p, 0, none⟩)] w (Dk.SpendE P w p d v rs) := by
  have HA := Lib.hid h
  obtain ⟨c0, c1, c2, c3⟩ := h.box.cells
  have f1 := h.box.frozen 1
  have f3 := h.box.frozen 3
  have hl := h.ok.left
  by_cases h0 : 0 ≤ d.left
  · have hL := h.arm h0
    rw [decide_eq_true h0] at c2
    rw [hL] at c3
    by_cases h1 : d.left = 0
    · have HO := Lib.hid (h.setOff true)
      rw [h1] at c3
      have HZ := Lib.hid h1
      clear h hL h1 h0 hl
      go_enter Try.func36, Try.ntmps36
      go_wp2
      go_ret
      exact ⟨.inr ⟨HZ.out, rfl, L, HO.out⟩, UpdQ.set (Q := fun b => b = p) w rfl _ _⟩
    · have hq : (d.left == 0) = false := beq_eq_false_iff_ne.2 h1
      have HO : Hid (At P (w.setCell ⟨p, 3, none⟩ (.int .i64 (d.left - 1))) p (spent d) v (d.left - 1) rs) := Lib.hid (by
        have h2 := h.setLeft (x := d.left - 1) h0 ⟨by omega, by omega⟩
        have e : spent d = ⟨d.fs, d.off, d.left - 1⟩ := by
          unfold spent dec
          rw [if_pos (by omega)]
        rw [e]
        exact h2)
      have HZ := Lib.hid h1
      obtain ⟨hl1, hl2⟩ := hl
      obtain ⟨lf, hlf⟩ : ∃ lf, d.left = lf := ⟨_, rfl⟩
      rw [hlf] at c3 HO hq hl1 hl2 h0
      clear h hL h1 hlf
      go_enter Try.func36, Try.ntmps36
      go_wp2
      go_ret
      exact ⟨.inl ⟨HZ.out, rfl, _, HO.out⟩, UpdQ.set (Q := fun b => b = p) w rfl _ _⟩
  · rw [decide_eq_false h0] at c2
    have HZ : Hid (d.left ≠ 0) := Lib.hid (by omega)
    have HS : Hid (spent d = d) := Lib.hid (by
      unfold spent dec
      rw [if_neg (by omega)])
    clear h h0 hl
    go_enter Try.func36, Try.ntmps36
    go_wp2
    go_ret
    exact ⟨.inl ⟨HZ.out, rfl, L, by rw [HS.out]; exact HA.out⟩, UpdQ.refl _ _⟩
theorem dk_off (h : At P w p d v L rs) : Calls Try.prog 32 #[.pointer (some ⟨p, 0, none⟩)] w fun e w' => e = .returned (.bool d.off) ∧ w' = w := by
  obtain ⟨c0, c1, c2, c3⟩ := h.box.cells
  clear h
  go_enter Try.func32, Try.ntmps32
  go_wp2
  go_ret
  exact ⟨rfl, rfl⟩
theorem dk_arm (n : Int) (hn : Fit n) (h : At P w p d v L rs) : Calls Try.prog 26 #[.pointer (some ⟨p, 0, none⟩), .int .i64 n] w fun e w' => e = .returned (.tuple #[]) ∧ At P w' p (armD d n) v n rs ∧ UpdQ (fun b => b = p) w w' := by
  obtain ⟨c0, c1, c2, c3⟩ := h.box.cells
  have f2 := h.box.frozen 2
  have f3 := h.box.frozen 3
  have HO : Hid (∀ b, b = decide (0 ≤ n) → At P ((w.setCell ⟨p, 2, none⟩ (.bool b)).setCell ⟨p, 3, none⟩ (.int .i64 n)) p (armD d n) v n rs) := Lib.hid fun b hb => by
    have k : UpdQ (fun b => b = p) w ((w.setCell ⟨p, 2, none⟩ (.bool b)).setCell ⟨p, 3, none⟩ (.int .i64 n)) := (UpdQ.set (Q := fun b => b = p) w rfl 2 _).trans (UpdQ.set (Q := fun b => b = p) _ rfl 3 _)
    have e1 : (w.setCell ⟨p, 2, none⟩ (.bool b)).heap[p]? = some (.cells #[.slice v.ao v.n v.cap, .bool d.off, .bool b, .int .i64 L] 49 (0, 0)) := (h.box.set 2 (.bool b)).trans rfl
    have e2 := heap_setCell_same _ p 3 _ _ (.int .i64 n) e1
    have e3 : decide (0 ≤ (armD d n).left) = b := by
      rw [hb]
      unfold armD
      dsimp only
      by_cases hneg : n < 0
      · rw [if_pos hneg, decide_eq_false (by omega), decide_eq_false (by omega)]
      · rw [if_neg hneg]
    refine ⟨?_, fun z => ?_, k.rows h.rows fun b e z => (h.pv b e).2 z, h.each.keep fun j hj g e => k.block g (World.ownsRow.lt (h.each.own j hj) g e).2 (h.pb j hj g e).2.1, h.pp, h.pv, h.pb, h.ap, ⟨h.ok.sorted, h.ok.kept, h.ok.room, h.ok.names, ?_⟩, h.few⟩
    · unfold Box
      rw [e3]
      exact e2.trans rfl
    · unfold armD at z ⊢
      dsimp only at z ⊢
      by_cases hneg : n < 0
      · rw [if_pos hneg] at z
        omega
      · rw [if_neg hneg]
    · unfold armD
      dsimp only
      unfold Fit at hn
      split <;> omega
  have HU : Hid (∀ b, UpdQ (fun b => b = p) w ((w.setCell ⟨p, 2, none⟩ (.bool b)).setCell ⟨p, 3, none⟩ (.int .i64 n))) := Lib.hid fun b => (UpdQ.set (Q := fun b => b = p) w rfl 2 _).trans (UpdQ.set (Q := fun b => b = p) _ rfl 3 _)
  by_cases h0 : 0 ≤ n
  · have hd : decide (0 ≤ n) = true := decide_eq_true h0
    clear h
    go_enter Try.func26, Try.ntmps26
    go_wp2
    go_end0
    exact ⟨rfl, HO.out _ hd.symm, HU.out _⟩
  · have hd : decide (0 ≤ n) = false := decide_eq_false h0
    clear h
    go_enter Try.func26, Try.ntmps26
    go_wp2
    go_end0
    exact ⟨rfl, HO.out _ hd.symm, HU.out _⟩
end
theorem dk_new (w0 w : World) (hw : Below w0.heap.size w0 w) : Calls Try.prog 6 #[] w fun e w' => ∃ p, e = .returned (.pointer (some ⟨p, 0, none⟩)) ∧ Dsk (fun b => w.heap.size ≤ b) w' p Dk.new ∧ Below w0.heap.size w0 w' := by
  have HW := Lib.hid hw
  clear hw
  go_enter Try.func6, Try.ntmps6
  go_wp2
  go_ret
  refine ⟨_, rfl, ⟨⟨none, 0, 0⟩, 0, [], ?_⟩, below_box HW.out _⟩
  refine ⟨heap_alloc_new w _, fun z => ?_, Fl.own_nil _ _, ⟨rfl, fun i h => absurd h (Nat.not_lt_zero _), fun i h => absurd h (Nat.not_lt_zero _), fun i h => absurd h (Nat.not_lt_zero _)⟩, Nat.le_refl _, fun b e => (by cases e), fun i h => absurd h (Nat.not_lt_zero _), fun i j h => absurd h (Nat.not_lt_zero _), ok_new, by show (0 : Nat) ≤ _; omega⟩
  exact absurd z (by show ¬ (0 : Int) ≤ -1; omega)
theorem Dk.total_take {fs : List F} {k : Nat} (h : k < fs.length) : total (fs.take (k + 1)) = total (fs.take k) + fs[k].bs.length := by
  rw [List.take_succ_eq_append_getElem h, total_app, total, total, Nat.add_zero]
theorem Dk.total_take_le (fs : List F) (k : Nat) : total (fs.take k) ≤ total fs := by
  conv => rhs; rw [← List.take_append_drop k fs]
  rw [total_app]
  omega
theorem Dk.own_n {w : World} {B : Nat} {s : Sl} {xs : List UInt8} (h : By.Own w B (sl s) xs) : s.n = xs.length ∧ s.n ≤ s.cap ∧ s.cap ≤ 9223372036854775807 := by
  obtain ⟨ao, cap, e, l, _⟩ := By.own_ls h
  unfold sl at e
  simp only [Value.slice.injEq] at e
  rw [e.2.1, e.2.2]
  exact ⟨rfl, l.fits, l.reach⟩
set_option maxHeartbeats 1000000 in
theorem dk_total {P : Nat → Prop} {w : World} {p : Nat} {d : D} {v : Sl} {L : Int} {rs : List Fl.T} (h : At P w p d v L rs) :
    Calls Try.prog 19 #[.pointer (some ⟨p, 0, none⟩)] w fun e w' => e = .returned (.int .i64 (total d.fs : Nat)) ∧ Below w.heap.size w w' := by
  have HA := Lib.hid h
  have HL := Lib.hid h.ls
  obtain ⟨c0, c1, c2, c3⟩ := h.box.cells
  obtain ⟨n1, n2, n3, n4⟩ := h.n
  have HN := Lib.hid n4
  have HN1 := Lib.hid n1
  have HRm := Lib.hid h.ok.room
  obtain ⟨ao, n, cap⟩ := v
  simp only at c0 n2 n3 HN HN1
  have hfew : n ≤ 1000 := by
    have h1 := h.few
    have h2 := HN1.out
    omega
  clear h n1 n4
  go_enter Try.func19, Try.ntmps19
  go_wp2_with fail
  clear c0 c1 c2 c3
  go_loopw [3, 5, 11] (fun t _ j wr => ∃ k m : Nat, k ≤ n ∧ m ≤ 4194304 ∧ j = .int .i64 k ∧ t = .int .i64 m ∧ Hid (total (d.fs.take k) = m) ∧ Hid (Below w.heap.size w wr)) (fun _ _ j _ => n - (intOf j).toNat)
  case atStart => exact ⟨0, 0, by omega, by omega, rfl, rfl, Lib.hid rfl, Lib.hid (Below.refl _ _)⟩
  case round =>
    rename World => wz
    obtain ⟨k, m, hk, hm, rfl, rfl, HT, HB⟩ := hrel
    by_cases hlt : k < n
    · obtain ⟨b, off, rfl⟩ := HL.out.at (by omega)
      have hkr : k < rs.length := HN.out ▸ hlt
      have hkf : k < d.fs.length := HA.out.each.len ▸ hkr
      have hrow := (HL.out.row k hkr).below HB.out
      have HS := Lib.hid (Dk.total_take hkf)
      have ho := Dk.own_n (HA.out.each.own k hkr)
      have HLe := Lib.hid (Dk.total_take_le d.fs (k + 1))
      obtain ⟨r, hr⟩ : ∃ r, rs[k] = r := ⟨_, rfl⟩
      rw [hr] at hrow ho
      obtain ⟨o1, o2, o3⟩ := ho
      have HO1 := Lib.hid o1
      have hbn : m + r.bytes.n ≤ 4194304 := by
        have h1 := HS.out
        have h2 := HT.out
        have h3 := HLe.out
        have h4 := HRm.out
        omega
      have HM : Hid (total (d.fs.take (k + 1)) = m + r.bytes.n) := Lib.hid (by rw [HS.out, HT.out, o1])
      clear hr o1
      obtain ⟨g0, g1, g2⟩ := hrow
      obtain ⟨W, hW, hbW, hA⟩ := Fl.boxed1 wz r
      have HBW := Lib.hid (bchain HB.out hbW)
      unfold Fl.C at hA
      obtain ⟨a0, a1, a2⟩ := hA
      clear hbW
      go_wp2_with fail
      go_roundw
      case rel => exact ⟨k + 1, m + r.bytes.n, by omega, by omega, by go_num, by go_num, HM, HBW⟩
      case measure => simp [intOf]; omega
    · obtain rfl : k = n := by omega
      have HM : Hid (total d.fs = m) := Lib.hid (by
        rw [← HT.out, List.take_of_length_le (by have := HN1.out; omega)])
      go_wp2_with fail
      go_ret
      exact ⟨by rw [HM.out]; rfl, HB.out⟩
end Go.Proofs.Ytegniklofhopeaa
