/- CONTRACTS OF sign.Fold AND sign.Same: any text of at most a third of 2^47 bytes. -/
import Derived.Test.YtgjfljpnlmebhabSignLoops
import Derived.Lib.AppendStr
import Derived.Laws.MakeOwn
import Derived.Laws.BytesArg
namespace Go.Proofs.Ytgjfljpnlmebhab
open Go.RowKit

theorem own_iterAt {w : World} {base : Nat} {e : TypeId} {v : Value} {n : Nat} {xs : List Value} (h : w.ownsRow base e 1 v n xs) {k : Nat} {s : ByteArray} {p : Nat} (hk : w.heap[k]? = some (.stringIter s p)) (p' : Nat) : (w.iterAt k s p').ownsRow base e 1 v n xs := by
  obtain ⟨h1, h2⟩ := h
  refine ⟨h1, ?_⟩
  rcases h2 with h2 | ⟨g, cap, cur, a, b, c, d⟩
  · exact .inl h2
  · refine .inr ⟨g, cap, cur, a, b, ?_, d⟩
    rw [Lib.iterAt_other _ _ _ _ _ (fun e => by rw [e, hk] at c; cases c)]
    exact c
theorem own_ne_iter {w : World} {base : Nat} {e : TypeId} {v : Value} {n : Nat} {xs : List Value} (h : w.ownsRow base e 1 v n xs) {k : Nat} {s : ByteArray} {p : Nat} (hk : w.heap[k]? = some (.stringIter s p)) : some k ≠ v.ownBlock := by
  rcases h.2 with ⟨rfl, _⟩ | ⟨g, cap, cur, rfl, b, c, d⟩
  · simp [Value.ownBlock]
  · simp only [Value.ownBlock, ne_eq, Option.some.injEq]
    intro e
    rw [← e, hk] at c
    cases c
def cellsOfBytes (bs : List UInt8) : List Value := bs.map fun b => Value.int .u8 b.toNat
theorem str_of_own {w : World} {base : Nat} {v : Value} {n : Nat} {bs : List UInt8} (h : w.ownsRow base 5 1 v n (cellsOfBytes bs)) :
    (convert 28 9 v).run Try.prog w = .ok (.string ⟨bs.toArray⟩) w := by
  have hn : bs.length = n := by simpa [cellsOfBytes] using h.1
  have h' := h
  rcases h.2 with ⟨rfl, h0⟩ | ⟨g, cap, cur, rfl, b, c, d⟩
  · have : bs = [] := List.eq_nil_of_length_eq_zero (by omega)
    subst this
    exact run_convert_bytes_nil w 28 5 Try.underlying28 Try.underlying5 0 0 9 Try.underlying9
  · have hr := run_convert_bytes_arg (P := Try.prog) w 28 5 Try.underlying28 Try.underlying5 g 0 n cap (bs.map fun b => (b.toNat : Int)) (by simpa using hn) (fun i hi => by
      have := h'.cells (g := g) rfl i (.int .u8 ((bs.map fun b => (b.toNat : Int)).getD i 0)) (by
        rw [cellsOfBytes, List.getElem?_map, List.getElem?_eq_getElem (by omega)]
        simp [List.getD, List.getElem?_eq_getElem (show i < bs.length by omega)])
      rw [Addr.add_lit] at this
      exact this) 9 Try.underlying9
    rw [hr]
    congr 2
    simp only [strOfNums, List.map_map]
    congr 1
    congr 1
    conv => rhs; rw [← List.map_id bs]
    apply List.map_congr_left
    intro b _
    simp
theorem strCells_enc (r : Int) : Lib.strCells (Utf8.encode r) = cellsOfBytes (Lib.encodeRune r) := by
  unfold Lib.strCells cellsOfBytes
  rw [Rn.enc_list]
theorem cellsOfBytes_append (a b : List UInt8) : cellsOfBytes (a ++ b) = cellsOfBytes a ++ cellsOfBytes b := by simp [cellsOfBytes]
theorem cellsOfBytes_length (a : List UInt8) : (cellsOfBytes a).length = a.length := by simp [cellsOfBytes]

set_option maxHeartbeats 2000000 in
theorem fold_any (s : ByteArray) (w : World) (hs : 3 * s.size ≤ 140737488355328) :
    Calls Try.prog 12 #[.string s] w fun e w' => e = .returned (.string ⟨(Rn.fold (txt s)).toArray⟩) ∧ Below w.heap.size w w' := by
  obtain ⟨i0, hi, hz0, hz1, hz2⟩ := info_parts info8
  obtain ⟨w1, hmk, hown1, hg1⟩ := run_make_own (P := Try.prog) w w.heap.size 28 5 i0 (.int .u8 0) 1 Try.underlying28 hi hz0 hz1 .i64 .i64 s.size (by rw [hz2]; omega) (by unfold maxLen; omega) (Nat.le_refl _)
  have hb1 : Below w.heap.size w w1 := (Below.refl _ w).grown hg1 (Nat.le_refl _) (fun k hk => by cases hk)
  have hlt1 : w.heap.size < w1.heap.size := (hown1.lt _ rfl).2
  go_enter Try.func12, Try.ntmps12
  go_wp2
  clear hmk hg1
  go_loopw [3, 5] (fun v _ wr => ∃ (pos : Nat) (acc : List UInt8), wr.heap[w1.heap.size]? = some (.stringIter s pos) ∧ wr.ownsRow w.heap.size 5 1 v acc.length (cellsOfBytes acc) ∧ Below w.heap.size w wr ∧ Hid (acc ++ Rn.fold ((txt s).drop pos) = Rn.fold (txt s)) ∧ pos ≤ s.size ∧ acc.length ≤ 3 * pos) (fun _ _ wr => s.size - wr.iterPos w1.heap.size)
  case atStart => exact ⟨0, [], World.iter_heap w1 s 0, hown1.alloc _, hb1.alloc (by omega) _, by show _ = _; simp, by omega, by simp⟩
  case round =>
    obtain ⟨pos, acc, hit, hown, hbw, HC, hb, hal⟩ := hrel
    have hpos0 := iterPos_of hit
    by_cases hp : pos < s.size
    · have hnx : ∀ ty, (Instr.next (.pointer (some ⟨w1.heap.size, 0, none⟩)) true ty).run Try.prog wr = _ := fun ty => Lib.run_next_any_at wr w1.heap.size s pos ty hit hp
      have hwd := dec_pos s pos
      have hle := dec_le s pos hp
      have hmx := dec_max s pos
      have hit2 := Lib.iterAt_heap wr w1.heap.size s pos (pos + (Utf8.decode s pos).2) hit
      have hbw2 := Lib.below_iterAt hbw (k := w1.heap.size) (by omega) s (pos + (Utf8.decode s pos).2)
      have hown2 := own_iterAt hown hit (pos + (Utf8.decode s pos).2)
      obtain ⟨W1, hW1⟩ : ∃ W1, W1 = wr.iterAt w1.heap.size s (pos + (Utf8.decode s pos).2) := ⟨_, rfl⟩
      rw [← hW1] at hnx hit2 hbw2 hown2
      have HS : Hid (Rn.fold ((txt s).drop pos) = Lib.encodeRune (Rn.small ((Utf8.decode s pos).1 : Int)) ++ Rn.fold ((txt s).drop (pos + (Utf8.decode s pos).2))) := by
        show _ = _
        rw [Rn.fold_step _ (drop_ne s pos hp), dec_at, List.drop_drop]
      have hel : (Lib.encodeRune (Rn.small ((Utf8.decode s pos).1 : Int))).length ≤ 3 * (Utf8.decode s pos).2 := by
        rw [Rn.small_len]
        by_cases hv : (Utf8.decode s pos).1 = 65533
        · have : (Lib.encodeRune (((Utf8.decode s pos).1 : Nat) : Int)).length = 3 := by rw [hv]; decide
          omega
        · have := Rn.width_enc ((txt s).drop pos) (drop_ne s pos hp) (by rw [dec_at]; exact hv)
          rw [dec_at] at this
          omega
      have hes : (Utf8.encode (Rn.small ((Utf8.decode s pos).1 : Int))).size = (Lib.encodeRune (Rn.small ((Utf8.decode s pos).1 : Int))).length := Rn.enc_size _
      have hBlt := lt_of_block hit2
      clear hW1 hit hown hbw
      go_wp2_with fail
      refine (small_any _ _ (by omega) (by omega)).mono ?_
      rintro e _ ⟨rfl, rfl⟩
      go_wp2_with (at_builtin; refine Lib.wpList_append_own_string _ rfl _ _ 28 9 rfl w.heap.size 5 i0 Try.underlying28 Try.underlying9 hi hz0 hz1 hz2 _ _ _ rfl hown2 (Utf8.encode (Rn.small ((Utf8.decode s pos).1 : Int))) rfl (by unfold maxLen; omega) (by omega) (by omega) ?_; intro v' w3 hown' hgrow3 hnil3)
      have hgrow : World.grownBy _ w3 u3.ownBlock := hgrow3
      clear hgrow3 hnil3
      have hit3 : w3.heap[w1.heap.size]? = some (.stringIter s (pos + (Utf8.decode s pos).2)) := by
        rw [hgrow.block w1.heap.size hBlt (own_ne_iter hown2 hit2)]; exact hit2
      have hbw3 : Below w.heap.size w w3 := Below.grown hbw2 hgrow (by omega) (fun j hj => (hown2.lt _ hj).1)
      rw [strCells_enc, ← cellsOfBytes_append, hes, ← List.length_append] at hown'
      go_roundw
      case rel =>
        refine ⟨pos + (Utf8.decode s pos).2, acc ++ Lib.encodeRune (Rn.small ((Utf8.decode s pos).1 : Int)), hit3, hown', hbw3, ?_, by omega, by rw [List.length_append]; omega⟩
        show _ = _
        rw [← HC.out, HS.out, List.append_assoc]
      case measure =>
        rw [iterPos_of hit3, hpos0]
        omega
    · have hnx : ∀ ty, (Instr.next (.pointer (some ⟨w1.heap.size, 0, none⟩)) true ty).run Try.prog wr = _ := fun ty => Lib.run_next_end_at wr w1.heap.size s pos ty hit hp
      have hst := str_of_own hown
      have HE : Hid (acc = Rn.fold (txt s)) := by
        show _ = _
        rw [← HC.out, drop_end s pos hp, Rn.fold_nil, List.append_nil]
      go_wp2
      go_ret
      exact ⟨ret_str (by rw [HE.out]), hbw⟩

theorem same_any (s t : ByteArray) (w : World) (hs : 3 * s.size ≤ 140737488355328) (ht : 3 * t.size ≤ 140737488355328) :
    Calls Try.prog 13 #[.string s, .string t] w fun e w' => e = .returned (.bool (Rn.fold (txt s) == Rn.fold (txt t))) ∧ Below w.heap.size w w' := by
  go_enter Try.func13, Try.ntmps13
  go_wp2_with fail
  refine (fold_any s _ hs).mono ?_
  rintro e w2 ⟨rfl, b2⟩
  have HB : Hid (Below w.heap.size w w2) := b2
  clear b2
  go_wp2_with fail
  refine (fold_any t _ ht).mono ?_
  rintro e w3 ⟨rfl, b3⟩
  have HB3 : Hid (Below w.heap.size w w3) := HB.out.trans (b3.mono HB.out.size)
  clear b3
  go_wp2_with fail
  go_ret
  exact ⟨rfl, HB3.out⟩
end Go.Proofs.Ytgjfljpnlmebhab
