/- THE WALK OF SignCuts. -/
import Derived.Test.YtgjfljpnlmebhaaSRuns
import Derived.Laws.Small
namespace Go.Proofs.Ytgjfljpnlmebhaa
open Go.RowKit

theorem cut_facts (s : ByteArray) (n : Int) : ∃ c : ByteArray, (⟨((txt s).take (Rn.cut (txt s) n)).toArray⟩ : ByteArray) = c ∧ c.size ≤ s.size ∧ s.extract 0 c.size = c ∧
    ((Rn.runes (txt c)).length : Int) = min (max n 0) ((Rn.runes (txt s)).length : Int) ∧ (Rn.runes (txt c)).length + (Rn.runes (txt (s.extract c.size s.size))).length = (Rn.runes (txt s)).length := by
  have hk := Rn.cut_le (txt s) n
  have hsz : (⟨((txt s).take (Rn.cut (txt s) n)).toArray⟩ : ByteArray).size = Rn.cut (txt s) n := by
    rw [size_mk, List.length_take, Nat.min_eq_left hk]
  have ht : txt (⟨((txt s).take (Rn.cut (txt s) n)).toArray⟩ : ByteArray) = (txt s).take (Rn.cut (txt s) n) := rfl
  refine ⟨_, rfl, by rw [hsz, ← txt_len]; exact hk, ?_, by rw [ht]; exact Rn.cut_width _ _, ?_⟩
  · rw [hsz]
    apply txt_ext
    rw [ht]
    simp [txt]
  · rw [hsz, ht]
    have := congrArg List.length (Rn.cut_runes (txt s) n)
    rw [List.length_append] at this
    rw [this]
    congr 2
    simp only [txt, ByteArray.data_extract, Array.toList_extract, List.extract]
    rw [List.take_of_length_le]
    rw [List.length_drop, Array.length_toList]
    exact Nat.le_refl _
theorem width_from (s : ByteArray) (w0 w : World) (m : Int) (hm : ((Rn.runes (txt s)).length : Int) = m) (hb : Below w0.heap.size w0 w) (hs : s.size ≤ 140737488355328) :
    Calls Try.prog 12 #[.string s] w fun e w' => e = .returned (.int .i64 m) ∧ Below w0.heap.size w0 w' :=
  (width_any s w hs).mono fun _ _ ⟨h1, h2⟩ => ⟨by rw [h1, hm], hb.trans (h2.mono hb.size)⟩
theorem width_gen (s : ByteArray) (w0 w : World) (hb : Below w0.heap.size w0 w) (hs : s.size ≤ 140737488355328) :
    Calls Try.prog 12 #[.string s] w fun e w' => e = .returned (.int .i64 ((Rn.runes (txt s)).length : Nat)) ∧ Below w0.heap.size w0 w' :=
  width_from s w0 w _ rfl hb hs
theorem runs_from (w0 w : World) (hb : Below w0.heap.size w0 w) :
    Calls Try.prog 3 #[] w fun e w' => e = .returned (.bool true) ∧ Below w0.heap.size w0 w' :=
  (runs_any w).mono fun _ _ ⟨h1, h2⟩ => ⟨h1, hb.trans (h2.mono hb.size)⟩

set_option maxHeartbeats 4000000 in
theorem signCuts_walk (s : ByteArray) (n : Int) (w : World) (hs : s.data.toList.length ≤ reachBytes) (hn : (Lit.int .i64 n).wf = true) :
    Calls Try.prog 8 #[.string s, .int .i64 n] w fun e w' => e = .returned (.bool true) ∧ Below w.heap.size w w' := by
  have hs' : s.size ≤ 140737488355328 := fits hs
  have hn' : -9223372036854775808 ≤ n ∧ n ≤ 9223372036854775807 := by simpa [Lit.wf, IntKind.min, IntKind.max, IntKind.signed, IntKind.bits] using hn
  clear hs hn
  obtain ⟨h0, h1⟩ := hn'
  obtain ⟨c, hc, hcs, hex, hw, hsum⟩ := cut_facts s n
  have hcut := cut_any s n w hs' h0 h1
  rw [hc] at hcut
  have hrl : (Rn.runes (txt s)).length ≤ 140737488355328 := Nat.le_trans (Rn.runes_len _) (by rw [txt_len]; exact hs')
  clear hc
  generalize hK : (Rn.runes (txt s)).length = K at *
  generalize hX : (Rn.runes (txt c)).length = X at *
  generalize hD : s.extract c.size s.size = d at *
  generalize hY : (Rn.runes (txt d)).length = Y at *
  go_enter Try.func8, Try.ntmps8
  go_wp2_with fail
  refine hcut.mono ?_
  rintro e w1 ⟨rfl, b1⟩
  have HB1 : Hid (Below w.heap.size w w1) := b1
  clear b1 hcut
  go_wp2_with fail
  refine (width_from s w _ K (by rw [hK]) HB1.out hs').mono ?_
  rintro e w2 ⟨rfl, b2⟩
  have HB2 : Hid (Below w.heap.size w w2) := b2
  clear b2 HB1
  have hds : d.size ≤ 140737488355328 := by rw [← hD, ByteArray.size_extract]; omega
  have hds2 : (s.extract c.size s.size).size ≤ 140737488355328 := by rw [hD]; exact hds
  have hcsz : c.size ≤ 140737488355328 := by omega
  have hm : ∃ x m : Int, (if n < 0 then 0 else n) = x ∧ (if (K : Int) < x then (K : Int) else x) = m ∧ (X : Int) = m := by
    refine ⟨_, _, rfl, rfl, ?_⟩
    rw [hw]
    split <;> split <;> omega
  obtain ⟨x, m, hx, hm, hXm⟩ := hm
  obtain ⟨y, hy⟩ : ∃ y : Int, (Y : Int) = y := ⟨_, rfl⟩
  have hX1 : ((Rn.runes (txt c)).length : Int) = m := by rw [hX]; exact hXm
  have hY1 : ((Rn.runes (txt d)).length : Int) = y := by rw [hY]; exact hy
  have hz : m + y = (K : Int) := by omega
  have hz2 : IntKind.i64.wrap (K : Int) = (K : Int) := by rw [IntKind.wrap_i64]; omega
  clear hw hX hY hXm hy hsum hex hK
  go_wp2_with fail
  go_region_held3 (fun u => Below w.heap.size w u) (first | assumption | exact HB2.out.drew) (first | (go_at_call 12; refine (width_gen _ w _ (by assumption) (by omega)).mono ?_; rintro e w' ⟨rfl, b⟩; (try rw [hX1]); (try rw [hY1])) | (go_at_call 3; refine (runs_from w _ (by assumption)).mono ?_; rintro e w' ⟨rfl, b⟩))
  all_goals (
    go_wp2
    go_ret
    exact ⟨rfl, by assumption⟩)
end Go.Proofs.Ytgjfljpnlmebhaa
