/- CONTRACTS OF PACKAGE disk: a file's keep and shorten; one row of a disk turned. -/
import Derived.Test.YtegniklofhopeaaDkY
set_option maxRecDepth 100000
set_option linter.unusedVariables false
namespace Go.Proofs.Ytegniklofhopeaa
open Go.RowKit
open Mem Dk

theorem By.und1 : Try.prog.underlying 27 = some (.slice (Try.prog.elem 27)) := by kernel_rfl
theorem By.size1 (u : World) : (sizeOf (Try.prog.elem 27)).run Try.prog u = .ok 1 u := by
  have h : (Try.prog.info? (Try.prog.elem 27)).map (·.size) = some 1 := by kernel_rfl
  obtain ⟨i, hi, hs⟩ := Option.map_eq_some_iff.1 h
  simp [sizeOf, typeInfo, hi, hs]
/-- bytes' head -/
theorem By.own_head {w : World} {B : Nat} {s : Sl} {xs : List UInt8} (h : By.Own w B (sl s) xs) (m : Nat) (hm : m ≤ xs.length) :
    By.Own w B (sl ⟨s.ao, m, s.cap⟩) (xs.take m) ∧ (sl ⟨s.ao, m, s.cap⟩).ownBlock = (sl s).ownBlock ∧ ∀ u, (Instr.slice 27 (.slice s.ao s.n s.cap) none (some (.int .i64 (m : Int))) none).run Try.prog u = .ok (.slice s.ao m s.cap) u := by
  obtain ⟨ao, n, cap⟩ := s
  unfold sl at h ⊢
  simp only
  rcases h.2 with ⟨e, e2⟩ | ⟨g, cap', cur, e, hB, hg, hn, hc, hs, ht⟩
  · simp only [Value.slice.injEq] at e
    obtain ⟨rfl, rfl, rfl⟩ := e
    obtain rfl : m = 0 := by omega
    refine ⟨⟨by simp, .inl ⟨rfl, by simp⟩⟩, rfl, fun u => ?_⟩
    rw [run_slice_h u 27 none 0 0 By.und1 .i64 ((0 : Nat) : Int) (by omega) (by omega), By.size1]
    rfl
  · simp only [Value.slice.injEq] at e
    obtain ⟨rfl, rfl, rfl⟩ := e
    have hl : (xs.take m).length = m := by rw [List.length_take]; omega
    refine ⟨⟨by simp, .inr ⟨g, cap, cur, by rw [hl], hB, hg, by rw [hl]; omega, hc, hs, ?_⟩⟩, rfl, fun u => ?_⟩
    · rw [hl, List.map_take, ← ht, List.take_take, Nat.min_eq_left (by omega)]
      simp
    · rw [run_slice_h u 27 (some ⟨g, 0, none⟩) xs.length cap By.und1 .i64 (m : Int) (by omega) (by omega), By.size1]
      simp [Result.andThen, sliced, Addr.add]
theorem fl_keep (w : World) (g n cap : Nat) (M : List Fl.T) (k : Nat) (h : Fl.Own w 0 (.slice (some ⟨g, 0, none⟩) n cap) M) (hk : k < M.length) (hn : M[k].bytes.n ≤ 9223372036854775807) :
    Calls Try.prog 39 #[.pointer (some ⟨g, k * 3, none⟩)] w fun e w' => e = .returned (.tuple #[]) ∧ w' = w.setCell ⟨g, k * 3 + 2, none⟩ (.int .i64 (M[k].bytes.n : Int)) := by
  obtain ⟨⟨q0, q1, q2⟩, qf, _⟩ := Fl.own_at h k hk
  have f2 := qf (k * 3 + 2)
  generalize M[k] = r at q0 q1 q2 hn ⊢
  clear h hk qf
  go_enter Try.func39, Try.ntmps39
  go_wp2_with fail
  go_end0
  exact ⟨rfl, rfl⟩
theorem fl_shorten (w : World) (g n cap : Nat) (M : List Fl.T) (k m : Nat) (h : Fl.Own w 0 (.slice (some ⟨g, 0, none⟩) n cap) M) (hk : k < M.length) (hs : ∀ u, (Instr.slice 27 (.slice M[k].bytes.ao M[k].bytes.n M[k].bytes.cap) none (some (.int .i64 (m : Int))) none).run Try.prog u = .ok (.slice M[k].bytes.ao m M[k].bytes.cap) u) (kp : Nat) (hkp : M[k].kept = (kp : Int)) :
    Calls Try.prog 46 #[.pointer (some ⟨g, k * 3, none⟩), .int .i64 (m : Int)] w fun e w' => e = .returned (.tuple #[]) ∧ w' = (w.setCell ⟨g, k * 3 + 1, none⟩ (.slice M[k].bytes.ao m M[k].bytes.cap)).setCell ⟨g, k * 3 + 2, none⟩ (.int .i64 ((min kp m : Nat) : Int)) := by
  obtain ⟨⟨q0, q1, q2⟩, qf, _⟩ := Fl.own_at h k hk
  have f1 := qf (k * 3 + 1)
  have f2 := qf (k * 3 + 2)
  rw [hkp] at q2
  generalize M[k] = r at q0 q1 q2 hs ⊢
  rw [show ((min kp m : Nat) : Int) = min (kp : Int) (m : Int) by omega]
  clear h hk qf hkp
  go_enter Try.func46, Try.ntmps46
  go_wp2_with fail
  go_end0
  exact ⟨rfl, rfl⟩
section
variable {P : Nat → Prop} {w u : World} {p : Nat} {d : D} {v : Sl} {L : Int} {rs : List Fl.T}
theorem Dk.others {k : Nat} (h : rs.Pairwise Ap) (hk : k < rs.length) {x : Fl.T} (hx : x ∈ rs.take k ++ rs.drop (k + 1)) : Ap rs[k] x := by
  have e : rs = rs.take k ++ rs[k] :: rs.drop (k + 1) := by rw [← List.drop_eq_getElem_cons hk, List.take_append_drop]
  have h2 : (rs.take k ++ rs[k] :: rs.drop (k + 1)).Pairwise Ap := e ▸ h
  have h3 := List.pairwise_append.1 h2
  rcases List.mem_append.1 hx with hx | hx
  · exact (h3.2.2 x hx _ (List.mem_cons_self ..)).symm
  · exact (List.pairwise_cons.1 h3.2.1).1 x hx
/-- one row turned, and its bytes, or new ones -/
theorem Dk.At.row (h : At P w p d v L rs) {k : Nat} (hk : k < rs.length) {r' : Fl.T} {f' : F} (rows : Fl.Own u 0 (sl v) (rs.set k r')) (one : One u r' f') (hu : UpdQ (fun b => (sl v).ownBlock = some b ∨ (sl rs[k].bytes).ownBlock = some b) w u)
    (hb : (sl r'.bytes).ownBlock = (sl rs[k].bytes).ownBlock ∨ ∃ g, (sl r'.bytes).ownBlock = some g ∧ w.heap.size ≤ g) (ok : Ok ⟨d.fs.set k f', d.off, d.left⟩) : At (nw P w) u p ⟨d.fs.set k f', d.off, d.left⟩ v L (rs.set k r') := by
  have hkf : k < d.fs.length := h.each.len ▸ hk
  have e1 : rs.set k r' = rs.take k ++ ([r'] ++ rs.drop (k + 1)) := List.set_eq_take_append_cons_drop.trans (if_pos hk)
  have e2 : d.fs.set k f' = d.fs.take k ++ ([f'] ++ d.fs.drop (k + 1)) := List.set_eq_take_append_cons_drop.trans (if_pos hkf)
  have few : (d.fs.set k f').length ≤ 1000 := by rw [List.length_set]; exact h.few
  rw [e1] at rows ⊢
  rw [e2] at ok few ⊢
  have hold := h.pb k hk
  refine At.turn h (mr := [r']) (mf := [f']) (Nat.le_succ k) (h.box.keep (hu.block p h.box.lt fun z => z.elim (fun z => (h.pv p z).2 rfl) fun z => (hold p z).2.1 rfl)) h.arm rows (fun x hx g e => ?_) (EachF.single one) (fun b z => .inl z) (fun b e => ⟨.inl (h.pv b e).1, (h.pv b e).2⟩) (fun b e => .inl e) (fun y hy => ?_) (List.pairwise_singleton _ _) (fun m hm y hy => ?_) ok few
  · obtain ⟨n, hn, e'⟩ := List.getElem_of_mem (cut_mem hx)
    subst e'
    have h1 := h.pb n hn g e
    exact hu.block g (World.ownsRow.lt (h.each.own n hn) g e).2 fun z => z.elim h1.2.2 fun z => others h.aps hk hx g z e
  · rw [List.mem_singleton.1 hy]
    intro b e
    rcases hb with hb | ⟨g, hb, hg⟩
    · have h1 := hold b (hb ▸ e)
      exact ⟨.inl h1.1, h1.2⟩
    · rw [hb] at e
      obtain rfl : g = b := by injection e
      refine ⟨.inr hg, fun z => ?_, fun z => ?_⟩
      · have := h.box.lt
        omega
      · have := (World.ownsRow.lt h.rows g z).2
        omega
  · rw [List.mem_singleton.1 hm]
    intro b e1 e2
    rcases hb with hb | ⟨g, hb, hg⟩
    · exact others h.aps hk hy b (hb ▸ e1) e2
    · rw [hb] at e1
      obtain rfl : g = b := by injection e1
      obtain ⟨n, hn, e'⟩ := List.getElem_of_mem (cut_mem hy)
      subst e'
      have := (World.ownsRow.lt (h.each.own n hn) g e2).2
      omega
/-- where the rows lie -/
theorem Dk.At.spot (h : At P w p d v L rs) (hn : 0 < v.n) : ∃ g, v.ao = some ⟨g, 0, none⟩ ∧ (sl v).ownBlock = some g := by
  obtain ⟨ao, n, cap⟩ := v
  have e := h.n.2.2.2
  rcases h.rows.2 with ⟨e1, e2⟩ | ⟨g, cap', cur, e1, _⟩
  · simp only at e hn
    omega
  · unfold sl at e1
    simp only [Value.slice.injEq] at e1
    exact ⟨g, e1.1, by unfold sl; simp only; rw [e1.1]; rfl⟩
end
end Go.Proofs.Ytegniklofhopeaa
