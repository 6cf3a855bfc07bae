/- THE CHAPTER'S RUNS: torn, DiskRuns. -/
import Derived.Test.YtegniklofhopeaaDkQ
set_option maxRecDepth 100000
set_option linter.unusedVariables false
namespace Go.Proofs.Ytegniklofhopeaa
open Go.RowKit
open Mem Dk

theorem Dk.ints_one (w : World) (x : Int) (hx : Fit x) : Ints (w.alloc (.cells #[.int .i64 x] 3)) (some ⟨w.heap.size, 0, none⟩) 1 1 [x] :=
  ⟨rfl, Nat.le_refl _, by omega, .inr ⟨w.heap.size, 0, rfl, fun k hk => by
    obtain rfl : k = 0 := by simpa using hk
    rw [cell_of_row _ _ _ _ _ _ (heap_alloc_new w _)]
    rfl⟩, fun z hz => by rw [List.mem_singleton.1 hz]; exact hx⟩
theorem Dk.run_c (pk : Nat) : crashD ⟨[⟨na, [1, 2, 3, 4, 5], 3⟩], false, -1⟩ [(pk : Int)] = ⟨[tear ⟨na, [1, 2, 3, 4, 5], 3⟩ pk], false, -1⟩ := rfl
set_option maxHeartbeats 2000000 in
theorem dk_torn (pk : Nat) (hp : pk ≤ 1000) (w : World) : Calls Try.prog 34 #[.int .i64 (pk : Int)] w fun e w' => ∃ g, e = .returned (.slice (some ⟨g, 0, none⟩) (tornD pk).length (tornD pk).length) ∧ By.Block w' g (tornD pk) ∧ Below w.heap.size w w' := by
  have A1 : Hid (appD Dk.new na [1, 2, 3] = (0, ⟨[⟨na, [1, 2, 3], 0⟩], false, -1⟩)) := Lib.hid (run_a1 na na_ok [1, 2, 3] (by decide) (-1) (by decide))
  have A2 : Hid (syncD ⟨[⟨na, [1, 2, 3], 0⟩], false, -1⟩ na = (0, ⟨[⟨na, [1, 2, 3], 3⟩], false, -1⟩)) := Lib.hid (run_s na [1, 2, 3] 0 (-1) (by decide))
  have A3 : Hid (appD ⟨[⟨na, [1, 2, 3], 3⟩], false, -1⟩ na [4, 5] = (0, ⟨[⟨na, [1, 2, 3, 4, 5], 3⟩], false, -1⟩)) := Lib.hid (run_a2 na na_ok [1, 2, 3] [4, 5] 3 (by decide) (-1) (by decide))
  go_enter Try.func34, Try.ntmps34
  go_wp2_with (go_at_call 6; refine (s_new w).mono ?_)
  rintro e W1 ⟨p, rfl, h1⟩
  have C1 := Lib.hid (s_append_new h1 na (by decide) [1, 2, 3] 3 rfl (by decide) (by decide) _ rfl)
  rw [A1.out] at C1
  clear h1
  go_wp2_with (go_at_call 11; refine C1.out.mono ?_)
  rintro e W2 ⟨rfl, h2⟩
  have C2 := Lib.hid (s_sync h2 na)
  rw [A2.out] at C2
  clear h2 C1
  go_wp2_with (go_at_call 12; refine C2.out.mono ?_)
  rintro e W3 ⟨rfl, h3, -⟩
  have C3 := Lib.hid (s_append_new h3 na (by decide) [4, 5] 2 rfl (by decide) (by show (1 : Nat) < 1000; decide) _ rfl)
  rw [A3.out] at C3
  clear h3 C2
  go_wp2_with (go_at_call 11; refine C3.out.mono ?_)
  rintro e W4 ⟨rfl, h4⟩
  have b4 : Below W4.heap.size W4 (W4.alloc (.cells #[.int .i64 (pk : Int)] 3)) := (Below.refl _ _).alloc (Nat.le_refl _) _
  have C4 := Lib.hid (s_crash (h4.tight.later b4) _ _ _ _ (ints_one W4 (pk : Int) ⟨by omega, by omega⟩) (fun _ ad e z => by cases e; exact Nat.lt_irrefl _ z.2))
  rw [run_c] at C4
  clear h4 C3 b4
  go_wp2_with (go_at_call 15; refine C4.out.mono ?_)
  rintro e W5 ⟨rfl, h5, -⟩
  have C5 := Lib.hid (s_read h5 na)
  have HB := Lib.hid h5.bel
  clear h5 C4
  go_wp2_with (go_at_call 16; refine C5.out.mono ?_)
  rintro e W6 ⟨b6, h6⟩
  have ho : Dk.own na [tear ⟨na, [1, 2, 3, 4, 5], 3⟩ pk] = tear ⟨na, [1, 2, 3, 4, 5], 3⟩ pk := one_own _ _ _
  have hh : has na [tear ⟨na, [1, 2, 3, 4, 5], 3⟩ pk] = true := one_has _ _ _
  rcases h6 with ⟨h6, _⟩ | ⟨_, g, rfl, hb, hg⟩
  · rw [show has na _ = true from hh] at h6
    cases h6
  · simp only [ho] at hb ⊢
    have HO : Hid (By.Block W6 g (tornD pk) ∧ Below w.heap.size w W6) := Lib.hid ⟨hb, bchain HB.out b6⟩
    rw [show (tear ⟨na, [1, 2, 3, 4, 5], 3⟩ pk).bs = tornD pk from rfl]
    clear hb hg b6 ho hh HB C5
    go_wp2_with fail
    go_ret
    exact ⟨g, rfl, HO.out.1, HO.out.2⟩
def Dk.nb : ByteArray := ⟨#[98]⟩
def Dk.nab : ByteArray := ⟨#[97, 32, 98]⟩
def Dk.nq : ByteArray := ⟨#[113]⟩
theorem Dk.nb_ok : nameOk nb = true := by decide
theorem Dk.nab_no : nameOk nab = false := by decide
theorem Dk.q_no : has nq [⟨na, [1], 0⟩] = false := by decide
theorem Dk.b_no : has nb [⟨na, [1], 0⟩] = false := by decide
theorem Dk.run_1 : renD ⟨[⟨na, [1], 0⟩], false, -1⟩ na nab = (19, ⟨[⟨na, [1], 0⟩], false, -1⟩) := by
  unfold renD
  rw [if_neg Bool.false_ne_true, if_pos nab_no]
theorem Dk.run_2 : cutD ⟨[⟨na, [1], 0⟩], false, -1⟩ na 99 = (1, ⟨[⟨na, [1], 0⟩], false, -1⟩) := by
  unfold cutD
  rw [if_neg Bool.false_ne_true, if_neg (by rw [show has na _ = true from one_has na [1] 0]; exact fun z => by cases z), if_pos (.inr (by simp only [one_own]; decide))]
theorem Dk.run_3 : syncD ⟨[⟨na, [1], 0⟩], false, -1⟩ nq = (11, ⟨[⟨na, [1], 0⟩], false, -1⟩) := by
  unfold syncD
  rw [if_neg Bool.false_ne_true, if_pos q_no]
theorem Dk.run_4 : appD ⟨[⟨na, [1], 0⟩], false, 1⟩ nb [1] = (0, ⟨put ⟨nb, [1], 0⟩ [⟨na, [1], 0⟩], false, 0⟩) := by
  unfold appD
  rw [if_neg Bool.false_ne_true, if_neg (by rw [nb_ok]; exact fun z => by cases z), if_neg (by decide), if_neg (by decide)]
  simp only [own_no b_no, with', List.nil_append]
  rfl
theorem Dk.run_5 : syncD ⟨put ⟨nb, [1], 0⟩ [⟨na, [1], 0⟩], false, 0⟩ nb = (18, ⟨put ⟨nb, [1], 0⟩ [⟨na, [1], 0⟩], true, 0⟩) := by
  unfold syncD
  have h := (put_spot (f := ⟨nb, [1], 0⟩) (l := [⟨na, [1], 0⟩]) (List.pairwise_singleton _ _)).2.1
  rw [if_neg Bool.false_ne_true, if_neg (by rw [show has nb _ = true from h]; exact fun z => by cases z), if_pos rfl]
  rfl
theorem Dk.run_6 : appD ⟨put ⟨nb, [1], 0⟩ [⟨na, [1], 0⟩], true, 0⟩ nb [2] = (18, ⟨put ⟨nb, [1], 0⟩ [⟨na, [1], 0⟩], true, 0⟩) := by
  unfold appD
  rw [if_pos rfl]
theorem Dk.torn_1 : tornD 1 = [1, 2, 3, 4] := by decide
theorem Dk.torn_4 : tornD 4 = [1, 2, 3, 251] := by decide
theorem Dk.torn_5 : tornD 5 = [1, 2, 3, 4, 250] := by decide
/-- Same of a block and of bytes that were made just now -/
theorem Dk.same_new (w : World) (g : Nat) (xs ys : List UInt8) (h : By.Block w g xs) (hx : xs.length ≤ 1000) (hy : ys.length ≤ 1000) (n m : Nat) (hn : n = xs.length) (hm : m = ys.length) (cs : Array Value) (hcs : cs = (ys.map By.bv).toArray) :
    Calls Try.prog 17 #[.slice (some ⟨g, 0, none⟩) n n, .slice (some ⟨w.heap.size, 0, none⟩) m m] (w.alloc (.cells cs 5)) fun e w' => e = .returned (.bool (decide (xs = ys))) ∧ Below w.heap.size w w' := by
  subst hn hm hcs
  have k : Below w.heap.size w (w.alloc (.cells (ys.map By.bv).toArray 5)) := (Below.refl _ _).alloc (Nat.le_refl _) _
  have hb : By.Block (w.alloc (.cells (ys.map By.bv).toArray 5)) w.heap.size ys := heap_alloc_new w _
  refine (By.same_any xs ys _ _ _ _ _ _ _ ((h.below k).ls (by omega)) (hb.ls (by omega))).mono ?_
  rintro e w' ⟨rfl, b⟩
  exact ⟨rfl, bchain k b⟩
set_option maxHeartbeats 4000000 in
theorem diskRuns_walk (w : World) : Calls Try.prog 10 #[] w fun e w' => e = .returned (.bool true) ∧ Below w.heap.size w w' := by
  have T1 : Hid (∀ u, Calls Try.prog 34 #[.int .i64 1] u fun e w' => ∃ g, e = .returned (.slice (some ⟨g, 0, none⟩) 4 4) ∧ By.Block w' g [1, 2, 3, 4] ∧ Below u.heap.size u w') := Lib.hid fun u => by
    have := dk_torn 1 (by decide) u
    rw [torn_1] at this
    exact this
  have T4 : Hid (∀ u, Calls Try.prog 34 #[.int .i64 4] u fun e w' => ∃ g, e = .returned (.slice (some ⟨g, 0, none⟩) 4 4) ∧ By.Block w' g [1, 2, 3, 251] ∧ Below u.heap.size u w') := Lib.hid fun u => by
    have := dk_torn 4 (by decide) u
    rw [torn_4] at this
    exact this
  have T5 : Hid (∀ u, Calls Try.prog 34 #[.int .i64 5] u fun e w' => ∃ g, e = .returned (.slice (some ⟨g, 0, none⟩) 5 5) ∧ By.Block w' g [1, 2, 3, 4, 250] ∧ Below u.heap.size u w') := Lib.hid fun u => by
    have := dk_torn 5 (by decide) u
    rw [torn_5] at this
    exact this
  have A1 : Hid (appD Dk.new na [1] = (0, ⟨[⟨na, [1], 0⟩], false, -1⟩)) := Lib.hid (run_a1 na na_ok [1] (by decide) (-1) (by decide))
  have few : Hid ((put ⟨nb, [1], 0⟩ [⟨na, [1], 0⟩]).length < 1000) := Lib.hid (by have := put_len ⟨nb, [1], 0⟩ [⟨na, [1], 0⟩]; simp only [List.length_singleton] at this; omega)
  go_enter Try.func10, Try.ntmps10
  go_wp2_with (go_at_call 6; refine (s_new w).mono ?_)
  rintro e W0 ⟨p, rfl, h0⟩
  have H0 := Lib.hid h0
  clear h0
  go_wp2_with (go_at_call 34; refine (T1.out W0).mono ?_)
  rintro e W1 ⟨g1, rfl, k1, b1⟩
  have C1 := Lib.hid (same_new W1 g1 _ [1, 2, 3, 4] k1 (by decide) (by decide) 4 4 rfl rfl _ rfl)
  have H1 := Lib.hid (H0.out.later b1)
  clear k1 b1 H0
  go_wp2_with (go_at_call 17; refine C1.out.mono ?_)
  rintro e W2 ⟨rfl, b2⟩
  have H2 := Lib.hid (H1.out.later b2)
  clear b2 H1 C1
  go_wp2_with (go_at_call 34; refine (T4.out W2).mono ?_)
  rintro e W3 ⟨g3, rfl, k3, b3⟩
  have C3 := Lib.hid (same_new W3 g3 _ [1, 2, 3, 251] k3 (by decide) (by decide) 4 4 rfl rfl _ rfl)
  have H3 := Lib.hid (H2.out.later b3)
  clear k3 b3 H2
  go_wp2_with (go_at_call 17; refine C3.out.mono ?_)
  rintro e W4 ⟨rfl, b4⟩
  have H4 := Lib.hid (H3.out.later b4)
  clear b4 H3 C3
  go_wp2_with (go_at_call 34; refine (T5.out W4).mono ?_)
  rintro e W5 ⟨g5, rfl, k5, b5⟩
  have C5 := Lib.hid (same_new W5 g5 _ [1, 2, 3, 4, 250] k5 (by decide) (by decide) 5 5 rfl rfl _ rfl)
  have H5 := Lib.hid (H4.out.later b5)
  clear k5 b5 H4
  go_wp2_with (go_at_call 17; refine C5.out.mono ?_)
  rintro e W6 ⟨rfl, b6⟩
  have D6 := Lib.hid (s_append_new (H5.out.later b6) na (by decide) [1] 1 rfl (by decide) (by decide) _ rfl)
  rw [A1.out] at D6
  clear b6 H5 C5
  go_wp2_with (go_at_call 11; refine D6.out.mono ?_)
  rintro e W7 ⟨rfl, h7⟩
  have D7 := Lib.hid (s_rename h7 na nab (by decide))
  rw [run_1] at D7
  clear h7 D6
  go_wp2_with (go_at_call 13; refine D7.out.mono ?_)
  rintro e W8 ⟨rfl, h8, -⟩
  have D8 := Lib.hid (s_cut h8 na 99 ⟨by decide, by decide⟩)
  rw [run_2] at D8
  clear h8 D7
  go_wp2_with (go_at_call 22; refine D8.out.mono ?_)
  rintro e W9 ⟨rfl, h9, -⟩
  have D9 := Lib.hid (s_sync h9 nq)
  rw [run_3] at D9
  clear h9 D8
  go_wp2_with (go_at_call 12; refine D9.out.mono ?_)
  rintro e Wa ⟨rfl, ha, -⟩
  have Da := Lib.hid (s_arm ha 1 ⟨by decide, by decide⟩)
  clear ha D9
  go_wp2_with (go_at_call 26; refine Da.out.mono ?_)
  rintro e Wb ⟨rfl, hb, -⟩
  have Db := Lib.hid (s_append_new (d := ⟨[⟨na, [1], 0⟩], false, 1⟩) hb nb (by decide) [1] 1 rfl (by decide) (by show (1 : Nat) < 1000; decide) _ rfl)
  rw [run_4] at Db
  clear hb Da
  go_wp2_with (go_at_call 11; refine Db.out.mono ?_)
  rintro e Wc ⟨rfl, hc⟩
  have Dc := Lib.hid (s_sync hc nb)
  rw [run_5] at Dc
  clear hc Db
  go_wp2_with (go_at_call 12; refine Dc.out.mono ?_)
  rintro e Wd ⟨rfl, hd, -⟩
  have Dd := Lib.hid (s_off hd)
  have De := Lib.hid (s_append_new hd nb (by decide) [2] 1 rfl (by decide) few.out _ rfl)
  rw [run_6] at De
  clear hd Dc
  go_wp2_with (go_at_call 32; refine Dd.out.mono ?_; rintro e We ⟨rfl, rfl⟩)
  go_wp2_with (go_at_call 11; refine De.out.mono ?_)
  rintro e Wf ⟨rfl, hf⟩
  have HB := Lib.hid hf.bel
  clear hf
  go_wp2_with fail
  go_ret
  exact ⟨rfl, HB.out⟩
end Go.Proofs.Ytegniklofhopeaa
