/- PLAIN LEAN: what a disk's changes leave is a disk that can be; no Go walked here. -/
import Derived.Test.YtegniklofhopeaaDkP
set_option linter.unusedVariables false
namespace Go.Proofs.Ytegniklofhopeaa.Dk

theorem del_mem {s : ByteArray} {l : List F} {f : F} (h : f ∈ del s l) : f ∈ l := by
  unfold del at h
  rcases List.mem_append.1 h with h | h
  · exact List.mem_of_mem_take h
  · exact List.mem_of_mem_drop h
theorem put_mem {f g : F} {l : List F} (h : g ∈ put f l) : g = f ∨ g ∈ l := by
  unfold put at h
  split at h
  · exact (List.mem_or_eq_of_mem_set h).symm
  · unfold ins at h
    rcases List.mem_append.1 h with h | h
    · exact .inr (List.mem_of_mem_take h)
    · rcases List.mem_cons.1 h with h | h
      · exact .inl h
      · exact .inr (List.mem_of_mem_drop h)
theorem total_del_le (s : ByteArray) (l : List F) : total (del s l) ≤ total l := by
  by_cases h : spot s l < l.length
  · have := total_del h
    omega
  · unfold del
    have e1 : total l = total (l.take (spot s l) ++ l.drop (spot s l)) := congrArg total (List.take_append_drop _ _).symm
    have e2 : l.drop (spot s l + 1) = [] := List.drop_eq_nil_of_le (by omega)
    rw [e1, total_app, total_app, e2]
    have : total [] = 0 := rfl
    omega
theorem total_put {f : F} {l : List F} (hs : Sorted l) : total (put f l) + (own f.name l).bs.length = total l + f.bs.length := by
  unfold put
  cases h : has f.name l
  · rw [if_neg (by simp), total_ins, own_no h]
    rfl
  · rw [if_pos rfl, own_at hs h]
    exact total_set (spot_lt hs h) f
theorem del_len {s : ByteArray} {l : List F} (hs : Sorted l) (h : has s l = true) : (del s l).length + 1 = l.length := by
  have := spot_lt hs h
  unfold del
  rw [List.length_append, List.length_take, List.length_drop, Nat.min_eq_left (by omega)]
  omega
theorem put_len (f : F) (l : List F) : (put f l).length ≤ l.length + 1 := by
  unfold put
  split
  · rw [List.length_set]
    omega
  · have := spot_le f.name l
    unfold ins
    rw [List.length_append, List.length_cons, List.length_take, List.length_drop, Nat.min_eq_left (by omega)]
    omega
theorem put_len_has {f : F} {l : List F} (h : has f.name l = true) : (put f l).length = l.length := by
  unfold put
  rw [if_pos h, List.length_set]
theorem put_set {f : F} {l : List F} (hs : Sorted l) (h : has f.name l = true) : put f l = l.take (spot f.name l) ++ ([f] ++ l.drop (spot f.name l + 1)) := by
  unfold put
  rw [if_pos h, List.set_eq_take_append_cons_drop, if_pos (spot_lt hs h)]
  rfl
theorem put_ins {f : F} {l : List F} (h : has f.name l = false) : put f l = l.take (spot f.name l) ++ ([f] ++ l.drop (spot f.name l)) := by
  unfold put
  rw [if_neg (by rw [h]; exact Bool.false_ne_true)]
  rfl
theorem del_ok {d : D} (h : Ok d) (s : ByteArray) : Ok ⟨del s d.fs, d.off, d.left⟩ :=
  ⟨del_sorted h.sorted, fun f k => h.kept f (del_mem k), Nat.le_trans (total_del_le _ _) h.room, fun f k => h.names f (del_mem k), h.left⟩
theorem put_ok {d : D} (h : Ok d) {f : F} (hk : f.kept ≤ f.bs.length) (hn : f.name.size ≤ 24) (hr : total (put f d.fs) ≤ 4194304) : Ok ⟨put f d.fs, d.off, d.left⟩ :=
  ⟨put_sorted h.sorted, fun g k => (put_mem k).elim (fun e => e ▸ hk) (h.kept g), hr, fun g k => (put_mem k).elim (fun e => e ▸ hn) (h.names g), h.left⟩
theorem own_mem {s : ByteArray} {l : List F} (hs : Sorted l) (h : has s l = true) : own s l ∈ l := by
  rw [own_at hs h]
  exact List.getElem_mem _
theorem own_kept {d : D} (h : Ok d) (s : ByteArray) : (own s d.fs).kept ≤ (own s d.fs).bs.length := by
  cases k : has s d.fs
  · rw [own_no k]
    exact Nat.le_refl _
  · exact h.kept _ (own_mem h.sorted k)
theorem own_room {d : D} (h : Ok d) (s : ByteArray) : (own s d.fs).bs.length ≤ total d.fs := by
  cases k : has s d.fs
  · rw [own_no k]
    exact Nat.zero_le _
  · exact total_mem (own_mem h.sorted k)
theorem name_size {s : ByteArray} (h : nameOk s = true) : s.size ≤ 24 := by
  unfold nameOk at h
  rw [Bool.and_eq_true, decide_eq_true_eq] at h
  exact h.1.2
theorem spent_ok {d : D} (h : Ok d) : Ok (spent d) := ⟨h.sorted, h.kept, h.room, h.names, dec_ok h.left⟩
end Go.Proofs.Ytegniklofhopeaa.Dk
