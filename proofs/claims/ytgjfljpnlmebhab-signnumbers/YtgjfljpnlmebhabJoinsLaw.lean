/- THE WALK OF SignJoins. -/
import Derived.Test.YtgjfljpnlmebhabSRuns
import Derived.Test.YtgjfljpnlmebhabBookWithin
import Derived.Laws.Concat
namespace Go.Proofs.Ytgjfljpnlmebhab
open Go.RowKit

theorem txt_app (a b : ByteArray) : txt (a ++ b) = txt a ++ txt b := by simp [txt, ByteArray.data_append]
theorem name_gen (s : ByteArray) (w0 w : World) (hb : Below w0.heap.size w0 w) (hs : s.size ≤ 140737488355328) :
    Calls Try.prog 11 #[.string s] w fun e w' => e = .returned (.bool (Rn.name (txt s))) ∧ Below w0.heap.size w0 w' :=
  (name_any s w hs).mono fun _ _ ⟨h1, h2⟩ => ⟨h1, hb.trans (h2.mono hb.size)⟩
theorem runs_from (w0 w : World) (hb : Below w0.heap.size w0 w) :
    Calls Try.prog 8 #[] w fun e w' => e = .returned (.bool true) ∧ Below w0.heap.size w0 w' :=
  (runs_any w).mono fun _ _ ⟨h1, h2⟩ => ⟨h1, hb.trans (h2.mono hb.size)⟩
def signs : ByteArray := ⟨#[45, 95, 46, 48, 49, 50, 51, 52, 53, 54, 55, 56, 57]⟩
theorem size32 : (ByteArray.mk #[32]).size = 1 := rfl
theorem signs_size : signs.size = 13 := rfl
theorem signs_at : ∀ pos : Fin 13, (Utf8.decode signs pos.1).2 = 1 ∧ (Utf8.decode signs pos.1).1 < 128 ∧ Rn.inner ((Utf8.decode signs pos.1).1 : Int) = true := by decide +kernel
theorem signs_next (wr : World) (k pos : Nat) (hit : wr.heap[k]? = some (.stringIter signs pos)) (hp : pos < 13) :
    ∃ r : Nat, r < 128 ∧ Rn.inner (r : Int) = true ∧ ∀ ty, (Instr.next (.pointer (some ⟨k, 0, none⟩)) true ty).run Try.prog wr = .ok (.tuple #[.bool true, .int .i64 pos, .int .i32 r]) (wr.iterAt k signs (pos + 1)) := by
  obtain ⟨h2, h1, h3⟩ := signs_at ⟨pos, hp⟩
  refine ⟨(Utf8.decode signs pos).1, h1, h3, fun ty => ?_⟩
  rw [Lib.run_next_any_at wr k signs pos ty hit (by rw [signs_size]; exact hp)]
  rw [show (Utf8.decode signs pos).2 = 1 from h2]
theorem enc_var (r : Int) : ∃ x : ByteArray, Utf8.encode r = x ∧ x.size ≤ 4 ∧ txt x = Lib.encodeRune r :=
  ⟨_, rfl, by rw [Rn.enc_size]; exact (Rn.enc_len _).2, Rn.enc_list _⟩
theorem enc_low (r : Nat) (h : r < 128) : Lib.encodeRune (r : Int) = [UInt8.ofNat r] := by
  unfold Lib.encodeRune
  rw [Lib.encodeRuneZ_one (by omega) (by omega)]
  rfl
theorem add_run (a b : ByteArray) (h : a.size + b.size ≤ 9223372036854775807) : ∃ t, a ++ b = t ∧ txt t = txt a ++ txt b ∧ t.size = a.size + b.size ∧ ∀ u, (Op.stringOp .add a b).run Try.prog u = .ok (.string t) u :=
  ⟨_, rfl, txt_app a b, by simp, fun u => run_string_add_sum u a b h⟩
/-- Two names with a sign or a digit between. -/
theorem joins_sign (a b : List UInt8) (r : Nat) (ha : Rn.name a = true) (hb : Rn.name b = true) (hl : a.length + b.length ≤ 23) (hr : r < 128) (hi : Rn.inner (r : Int) = true) :
    Rn.name ((a ++ Lib.encodeRune (r : Int)) ++ b) = true := by
  rw [enc_low r hr, List.append_assoc]
  have e : (UInt8.ofNat r).toNat = r := by simp; omega
  refine Rn.name_app a _ ha ?_ (by simp; omega)
  exact Rn.nameOk_cons_low _ b (by rw [e]; exact hr) (by rw [e]; exact hi) (Rn.nameOk_weak _ (Rn.name_ok b hb))
theorem joins_two (a b : List UInt8) (ha : Rn.name a = true) (hb : Rn.name b = true) (hl : a.length + b.length ≤ 23) : Rn.name (a ++ b) = true :=
  Rn.name_app a b ha (Rn.nameOk_weak _ (Rn.name_ok b hb)) (by omega)
theorem joins_blank (a b : List UInt8) : Rn.name ((a ++ [32]) ++ b) = false :=
  Rn.name_not _ 32 (by decide) (by simp) (by decide) (by decide)
theorem slice_to (s : ByteArray) (i : Int) (h0 : 0 ≤ i) (h1 : i ≤ s.size) : ∃ t, t.size ≤ s.size ∧ ∀ u, (Instr.slice 9 (.string s) none (some (.int .i64 i)) none).run Try.prog u = .ok (.string t) u := by
  refine ⟨s.extract 0 i.toNat, by rw [ByteArray.size_extract]; omega, fun u => ?_⟩
  rw [run_slice_string_to_if u 9 s .i64 i Try.underlying9, if_pos ⟨h0, h1⟩]
theorem slice_from (s : ByteArray) (i : Int) (h0 : 0 ≤ i) (h1 : i ≤ s.size) : ∃ t, t.size ≤ s.size ∧ ∀ u, (Instr.slice 9 (.string s) (some (.int .i64 i)) none none).run Try.prog u = .ok (.string t) u := by
  refine ⟨s.extract i.toNat s.size, by rw [ByteArray.size_extract]; omega, fun u => ?_⟩
  rw [run_slice_string_from_if u 9 s .i64 i Try.underlying9, if_pos ⟨h0, h1⟩]

set_option maxHeartbeats 4000000 in
theorem signJoins_walk (a b : ByteArray) (k : Int) (w : World) (has : a.data.toList.length ≤ reachBytes) (hbs : b.data.toList.length ≤ reachBytes) (hk : (Lit.int .i64 k).wf = true) :
    Calls Try.prog 5 #[.string a, .string b, .int .i64 k] w fun e w' => e = .returned (.bool true) ∧ Below w.heap.size w w' := by
  have ha' : a.size ≤ 140737488355328 := fits has
  have hb' : b.size ≤ 140737488355328 := fits hbs
  have hk' : -9223372036854775808 ≤ k ∧ k ≤ 9223372036854775807 := by simpa [Lit.wf, IntKind.min, IntKind.max, IntKind.signed, IntKind.bits] using hk
  clear has hbs hk
  go_enter Try.func5, Try.ntmps5
  go_wp2_with fail
  refine (name_any a _ ha').mono ?_
  rintro e w1 ⟨rfl, b1⟩
  have HB1 : Hid (Below w.heap.size w w1) := b1
  clear b1
  cases hna : Rn.name (txt a)
  · go_wp2_with fail
    refine (runs_from w _ HB1.out).mono ?_
    rintro e w2 ⟨rfl, b2⟩
    go_wp2_with fail
    go_ret
    exact ⟨rfl, b2⟩
  go_wp2_with fail
  refine (name_gen b w _ HB1.out hb').mono ?_
  rintro e w2 ⟨rfl, b2⟩
  have HB2 : Hid (Below w.heap.size w w2) := b2
  clear b2 HB1
  cases hnb : Rn.name (txt b)
  · go_wp2_with fail
    refine (runs_from w _ HB2.out).mono ?_
    rintro e w3 ⟨rfl, b3⟩
    go_wp2_with fail
    go_ret
    exact ⟨rfl, b3⟩
  by_cases hl : 23 < (a.size : Int) + (b.size : Int)
  · go_wp2_with fail
    refine (runs_from w _ HB2.out).mono ?_
    rintro e w3 ⟨rfl, b3⟩
    go_wp2_with fail
    go_ret
    exact ⟨rfl, b3⟩
  have hl' : (txt a).length + (txt b).length ≤ 23 := by rw [txt_len, txt_len]; omega
  have hla : a.size ≤ 23 := by omega
  have hlb : b.size ≤ 23 := by omega
  go_wp2
  go_loopw [8] (fun _ wr => ∃ (pos : Nat), wr.heap[w2.heap.size]? = some (.stringIter signs pos) ∧ Hid (Below w.heap.size w wr) ∧ pos ≤ 13) (fun _ wr => 13 - wr.iterPos w2.heap.size)
  case atStart => exact ⟨0, World.iter_heap w2 signs 0, HB2.out.alloc HB2.out.size _, by omega⟩
  case round =>
    obtain ⟨pos, hit, HBW, hb⟩ := hrel
    have hpos0 := iterPos_of hit
    have hsz : signs.size = 13 := signs_size
    by_cases hp : pos < 13
    · obtain ⟨r, hd1, hdi, hnx⟩ := signs_next wr w2.heap.size pos hit hp
      have hit2 := Lib.iterAt_heap wr w2.heap.size signs pos (pos + 1) hit
      have HBW2 : Hid (Below w.heap.size w (wr.iterAt w2.heap.size signs (pos + 1))) := Lib.below_iterAt HBW.out (k := w2.heap.size) HB2.out.size signs _
      generalize wr.iterAt w2.heap.size signs (pos + 1) = W1 at *
      obtain ⟨x, hx, hxs, hxt⟩ := enc_var (r : Int)
      obtain ⟨t1, _, ht1, hs1, hadd1⟩ := add_run a x (by omega)
      obtain ⟨t2, _, ht2, hs2, hadd2⟩ := add_run t1 b (by omega)
      have HN2 : Hid (Rn.name (txt t2) = true) := by
        show _ = _
        rw [ht2, ht1, hxt]
        exact joins_sign (txt a) (txt b) r hna hnb hl' hd1 hdi
      have hs2' : t2.size ≤ 100 := by omega
      have hlt := lt_of_block hit2
      clear hd1 hdi hit HBW ht1 ht2 hs1 hs2 hxs hxt
      go_wp2_with fail
      refine (name_any t2 _ (by omega)).mono ?_
      rintro e w3 ⟨rfl, b3⟩
      rw [HN2.out]
      have hit3 : w3.heap[w2.heap.size]? = some (.stringIter signs (pos + 1)) := (b3.block _ hlt).trans hit2
      have HBW3 : Hid (Below w.heap.size w w3) := HBW2.out.trans (b3.mono HBW2.out.size)
      clear b3 HBW2
      go_wp2
      go_roundw
      case rel => exact ⟨pos + 1, hit3, HBW3, by omega⟩
      case measure =>
        rw [iterPos_of hit3, hpos0]
        omega
    · have hnx : ∀ ty, (Instr.next (.pointer (some ⟨w2.heap.size, 0, none⟩)) true ty).run Try.prog wr = _ := fun ty => Lib.run_next_end_at wr w2.heap.size signs pos ty hit (by omega)
      clear HB2
      go_wp2_with fail
      refine (bookWithin_any k 0 a.size _ hk' (by omega) (by omega) (by omega)).mono ?_
      rintro e _ ⟨⟨i, rfl, hi0, hi1⟩, rfl⟩
      obtain ⟨t3, _, ht3, hs3, hadd3⟩ := add_run a b (by omega)
      obtain ⟨p, hps, hsl1⟩ := slice_to a i hi0 hi1
      obtain ⟨q, hqs, hsl2⟩ := slice_from a i hi0 hi1
      obtain ⟨t4, _, ht4, hs4, hadd4⟩ := add_run p ⟨#[32]⟩ (by rw [size32]; omega)
      obtain ⟨t5, _, ht5, hs5, hadd5⟩ := add_run t4 q (by rw [hs4, size32]; omega)
      have hN3 : Rn.name (txt t3) = true := by rw [ht3]; exact joins_two _ _ hna hnb hl'
      have hN5 : Rn.name (txt t5) = false := by rw [ht5, ht4]; exact joins_blank _ _
      have hs3' : t3.size ≤ 100 := by omega
      have hs5' : t5.size ≤ 100 := by rw [hs5, hs4, size32]; omega
      clear ht3 ht4 ht5 hs3 hs4 hs5 hps hqs hnx hit hpos0 hsz hna hnb hl'
      go_wp2_with fail
      go_region_held3 (fun u => Below w.heap.size w u) (first | assumption | exact HBW.out.drew) (first | (go_at_call 11; refine (name_gen _ w _ (by assumption) (by omega)).mono ?_; rintro e w' ⟨rfl, b⟩; (try rw [hN3]); (try rw [hN5])) | (go_at_call 8; refine (runs_from w _ (by assumption)).mono ?_; rintro e w' ⟨rfl, b⟩))
      all_goals (
        go_wp2
        go_ret
        exact ⟨rfl, by assumption⟩)
end Go.Proofs.Ytgjfljpnlmebhab
