/- THE DOCUMENT's OWN ANSWER: impostref3's ReadDate. -/
import Derived.Test.YtekegbnmmjhfiaaRefShow
namespace Go.Proofs.Ytekegbnmmjhfiaa
open Go.RowKit

theorem len3 : Try.prog.arrayLen 48 = 3 := by kernel_rfl
set_option maxHeartbeats 1000000 in
theorem refRead_len (s : ByteArray) (w0 w : World) (hw : Below w0.heap.size w0 w) (_hs : s.size ≤ 140737488355328) (hn : s.size ≠ 10) :
    Calls Try.prog 20 #[.string s] w fun e w' => e = dayE (0, 0, 0, 4) ∧ Below w0.heap.size w0 w' := by
  have HW := Lib.hid hw
  clear hw
  have h1 : ((s.size : Int) != 10) = true := bne_iff_ne.2 (by omega)
  go_enter Try.func20, Try.ntmps20
  go_wp2
  exact bodyPost_ret (v := .tuple #[dayV 0 0 0, .int .i64 4]) (by simp [results, dayV, Try.results20, go_sem]) rfl ⟨rfl, below_box HW.out _⟩
/-- what the loop's memory holds: the answer's own place, and three numbers -/
structure Held (w wr : World) (x y z : Int) : Prop where
  below : Below w.heap.size w wr
  size : wr.heap.size = w.heap.size + 2
  b0 : wr.cell? ⟨w.heap.size, 0, none⟩ = some (.int .i64 0)
  b1 : wr.cell? ⟨w.heap.size, 1, none⟩ = some (.int .i64 0)
  b2 : wr.cell? ⟨w.heap.size, 2, none⟩ = some (.int .i64 0)
  bf : ∀ o, wr.frozen? ⟨w.heap.size, o, none⟩ = false
  a0 : wr.cell? ⟨w.heap.size + 1, 0, none⟩ = some (.int .i64 x)
  a1 : wr.cell? ⟨w.heap.size + 1, 1, none⟩ = some (.int .i64 y)
  a2 : wr.cell? ⟨w.heap.size + 1, 2, none⟩ = some (.int .i64 z)
  af : ∀ o, wr.frozen? ⟨w.heap.size + 1, o, none⟩ = false
theorem held_start (w : World) : Held w ((w.alloc (.cells #[.int .i64 0, .int .i64 0, .int .i64 0] 23)).alloc (.cells #[.int .i64 0, .int .i64 0, .int .i64 0] 48)) 0 0 0 := by
  refine ⟨((Below.refl _ _).alloc (Nat.le_refl _) _).alloc (by simp) _, by simp, ?_, ?_, ?_, ?_, ?_, ?_, ?_, ?_⟩
  all_goals simp [go_sem]
theorem Held.set0 {w wr : World} {x y z : Int} (h : Held w wr x y z) (v : Int) : Held w ((wr.setCell ⟨w.heap.size + 1, 0, none⟩ (.int .i64 v)).drew) v y z := by
  obtain ⟨hb, hs, b0, b1, b2, bf, a0, a1, a2, af⟩ := h
  refine ⟨(hb.setCell (by simp) _).drew, by simp [hs], ?_, ?_, ?_, ?_, ?_, ?_, ?_, ?_⟩
  all_goals simp [go_sem, b0, b1, b2, bf, a0, a1, a2, af]
theorem Held.set1 {w wr : World} {x y z : Int} (h : Held w wr x y z) (v : Int) : Held w ((wr.setCell ⟨w.heap.size + 1, 1, none⟩ (.int .i64 v)).drew) x v z := by
  obtain ⟨hb, hs, b0, b1, b2, bf, a0, a1, a2, af⟩ := h
  refine ⟨(hb.setCell (by simp) _).drew, by simp [hs], ?_, ?_, ?_, ?_, ?_, ?_, ?_, ?_⟩
  all_goals simp [go_sem, b0, b1, b2, bf, a0, a1, a2, af]
theorem Held.set2 {w wr : World} {x y z : Int} (h : Held w wr x y z) (v : Int) : Held w ((wr.setCell ⟨w.heap.size + 1, 2, none⟩ (.int .i64 v)).drew) x y v := by
  obtain ⟨hb, hs, b0, b1, b2, bf, a0, a1, a2, af⟩ := h
  refine ⟨(hb.setCell (by simp) _).drew, by simp [hs], ?_, ?_, ?_, ?_, ?_, ?_, ?_, ?_⟩
  all_goals simp [go_sem, b0, b1, b2, bf, a0, a1, a2, af]
theorem below_zero {w0 w wr : World} (h0 : Below w0.heap.size w0 w) (h : Below w.heap.size w wr) (a b c : Value) :
    Below w0.heap.size w0 (((wr.setCell ⟨w.heap.size, 0, none⟩ a).setCell ⟨w.heap.size, 1, none⟩ b).setCell ⟨w.heap.size, 2, none⟩ c) :=
  (((h0.trans (h.mono h0.size)).setCell h0.size _).setCell h0.size _).setCell h0.size _
set_option maxHeartbeats 4000000 in
theorem refRead_ten (s : ByteArray) (a b c d f g i j : UInt8) (w0 w : World) (hw : Below w0.heap.size w0 w) (hx : txt s = [a, b, c, d, 45, f, g, 45, i, j]) :
    Calls Try.prog 20 #[.string s] w fun en w' => en = dayE (Dt.told [a, b, c, d, 45, f, g, 45, i, j]) ∧ Below w0.heap.size w0 w' := by
  have HW := Lib.hid hw
  clear hw
  have hs : s.size = 10 := by rw [← txt_len, hx]; rfl
  have q0 : s[0] = a := by rw [at_txt]; simp [hx]
  have q1 : s[1] = b := by rw [at_txt]; simp [hx]
  have q2 : s[2] = c := by rw [at_txt]; simp [hx]
  have q3 : s[3] = d := by rw [at_txt]; simp [hx]
  have q4 : s[4] = 45 := by rw [at_txt]; simp [hx]
  have q5 : s[5] = f := by rw [at_txt]; simp [hx]
  have q6 : s[6] = g := by rw [at_txt]; simp [hx]
  have q7 : s[7] = 45 := by rw [at_txt]; simp [hx]
  have q8 : s[8] = i := by rw [at_txt]; simp [hx]
  have q9 : s[9] = j := by rw [at_txt]; simp [hx]
  clear hx
  go_enter Try.func20, Try.ntmps20
  go_wp2
  go_loopw [5, 6] (fun v5 v6 wr => ∃ t : Nat, t ≤ 10 ∧ v6 = .int .i64 t ∧ v5 = .int .i64 (if t ≤ 4 then 0 else if t ≤ 7 then 1 else 2 : Nat) ∧ Hid (Held w wr (pv ([a, b, c, d].take t)) (pv ([f, g].take (t - 5))) (pv ([i, j].take (t - 8)))) ∧ Hid (([a, b, c, d].take t ++ [f, g].take (t - 5) ++ [i, j].take (t - 8)).all Dt.isDig = true)) (fun _ v6 _ => 10 - (intOf v6).toNat)
  case atStart => exact ⟨0, by omega, rfl, rfl, held_start w, rfl⟩
  case round =>
    obtain ⟨t, ht, rfl, rfl, HH, HD⟩ := hrel
    obtain ⟨x, y, z, hx, hy, hz, HE⟩ : ∃ x y z : Nat, x ≤ 300000 ∧ y ≤ 300000 ∧ z ≤ 300000 ∧ Hid (x = pv ([a, b, c, d].take t) ∧ y = pv ([f, g].take (t - 5)) ∧ z = pv ([i, j].take (t - 8))) :=
      ⟨_, _, _, pv_le _ (by simp [List.length_take]; omega), pv_le _ (by simp [List.length_take]; omega), pv_le _ (by simp [List.length_take]; omega), rfl, rfl, rfl⟩
    obtain ⟨hb, hsz, b0, b1, b2, bf, a0, a1, a2, af⟩ := HH.out
    have HB := Lib.hid hb
    rw [← HE.out.1] at a0
    rw [← HE.out.2.1] at a1
    rw [← HE.out.2.2] at a2
    have hl3 := len3
    clear hb
    by_cases e0 : t = 0
    · subst e0
      by_cases hd : 48 ≤ a.toNat
      · by_cases hd2 : a.toNat ≤ 57
        · go_wp2
          go_region
          go_wp2
          obtain ⟨rfl, rfl, rfl⟩ := HE.out
          have hi : Dt.isDig a = true := decide_eq_true ⟨hd, hd2⟩
          go_roundw
          case rel =>
            rw [pv_step _ _ hd]
            exact ⟨1, by omega, by go_num, rfl, HH.out.set0 _, Lib.hid (by simp [hi])⟩
          case measure => simp [intOf]
        · have hn : Dt.isDig a = false := decide_eq_false (by omega)
          go_wp2
          rw [bad_told (by simp [hn])]
          refine bodyPost_ret (v := .tuple #[dayV 0 0 0, .int .i64 4]) (by simp [results, dayV, Try.results20, go_sem, b0, b1, b2]) rfl ⟨rfl, ?_⟩
          exact below_zero HW.out HB.out _ _ _
      · have hn : Dt.isDig a = false := decide_eq_false (by omega)
        go_wp2
        rw [bad_told (by simp [hn])]
        refine bodyPost_ret (v := .tuple #[dayV 0 0 0, .int .i64 4]) (by simp [results, dayV, Try.results20, go_sem, b0, b1, b2]) rfl ⟨rfl, ?_⟩
        exact below_zero HW.out HB.out _ _ _
    by_cases e1 : t = 1
    · subst e1
      by_cases hd : 48 ≤ b.toNat
      · by_cases hd2 : b.toNat ≤ 57
        · go_wp2
          go_region
          go_wp2
          obtain ⟨rfl, rfl, rfl⟩ := HE.out
          have hi : Dt.isDig b = true := decide_eq_true ⟨hd, hd2⟩
          go_roundw
          case rel =>
            rw [pv_step _ _ hd]
            exact ⟨2, by omega, by go_num, rfl, HH.out.set0 _, Lib.hid (by simpa [hi] using HD.out)⟩
          case measure => simp [intOf]
        · have hn : Dt.isDig b = false := decide_eq_false (by omega)
          go_wp2
          rw [bad_told (by simp [hn])]
          refine bodyPost_ret (v := .tuple #[dayV 0 0 0, .int .i64 4]) (by simp [results, dayV, Try.results20, go_sem, b0, b1, b2]) rfl ⟨rfl, ?_⟩
          exact below_zero HW.out HB.out _ _ _
      · have hn : Dt.isDig b = false := decide_eq_false (by omega)
        go_wp2
        rw [bad_told (by simp [hn])]
        refine bodyPost_ret (v := .tuple #[dayV 0 0 0, .int .i64 4]) (by simp [results, dayV, Try.results20, go_sem, b0, b1, b2]) rfl ⟨rfl, ?_⟩
        exact below_zero HW.out HB.out _ _ _
    by_cases e2 : t = 2
    · subst e2
      by_cases hd : 48 ≤ c.toNat
      · by_cases hd2 : c.toNat ≤ 57
        · go_wp2
          go_region
          go_wp2
          obtain ⟨rfl, rfl, rfl⟩ := HE.out
          have hi : Dt.isDig c = true := decide_eq_true ⟨hd, hd2⟩
          go_roundw
          case rel =>
            rw [pv_step _ _ hd]
            exact ⟨3, by omega, by go_num, rfl, HH.out.set0 _, Lib.hid (by simpa [hi] using HD.out)⟩
          case measure => simp [intOf]
        · have hn : Dt.isDig c = false := decide_eq_false (by omega)
          go_wp2
          rw [bad_told (by simp [hn])]
          refine bodyPost_ret (v := .tuple #[dayV 0 0 0, .int .i64 4]) (by simp [results, dayV, Try.results20, go_sem, b0, b1, b2]) rfl ⟨rfl, ?_⟩
          exact below_zero HW.out HB.out _ _ _
      · have hn : Dt.isDig c = false := decide_eq_false (by omega)
        go_wp2
        rw [bad_told (by simp [hn])]
        refine bodyPost_ret (v := .tuple #[dayV 0 0 0, .int .i64 4]) (by simp [results, dayV, Try.results20, go_sem, b0, b1, b2]) rfl ⟨rfl, ?_⟩
        exact below_zero HW.out HB.out _ _ _
    by_cases e3 : t = 3
    · subst e3
      by_cases hd : 48 ≤ d.toNat
      · by_cases hd2 : d.toNat ≤ 57
        · go_wp2
          go_region
          go_wp2
          obtain ⟨rfl, rfl, rfl⟩ := HE.out
          have hi : Dt.isDig d = true := decide_eq_true ⟨hd, hd2⟩
          go_roundw
          case rel =>
            rw [pv_step _ _ hd]
            exact ⟨4, by omega, by go_num, rfl, HH.out.set0 _, Lib.hid (by simpa [hi] using HD.out)⟩
          case measure => simp [intOf]
        · have hn : Dt.isDig d = false := decide_eq_false (by omega)
          go_wp2
          rw [bad_told (by simp [hn])]
          refine bodyPost_ret (v := .tuple #[dayV 0 0 0, .int .i64 4]) (by simp [results, dayV, Try.results20, go_sem, b0, b1, b2]) rfl ⟨rfl, ?_⟩
          exact below_zero HW.out HB.out _ _ _
      · have hn : Dt.isDig d = false := decide_eq_false (by omega)
        go_wp2
        rw [bad_told (by simp [hn])]
        refine bodyPost_ret (v := .tuple #[dayV 0 0 0, .int .i64 4]) (by simp [results, dayV, Try.results20, go_sem, b0, b1, b2]) rfl ⟨rfl, ?_⟩
        exact below_zero HW.out HB.out _ _ _
    by_cases e4 : t = 4
    · subst e4
      go_wp2
      go_roundw
      case rel => exact ⟨5, by omega, by go_num, rfl, HH.out, HD.out⟩
      case measure => simp [intOf]
    by_cases e5 : t = 5
    · subst e5
      by_cases hd : 48 ≤ f.toNat
      · by_cases hd2 : f.toNat ≤ 57
        · go_wp2
          go_region
          go_wp2
          obtain ⟨rfl, rfl, rfl⟩ := HE.out
          have hi : Dt.isDig f = true := decide_eq_true ⟨hd, hd2⟩
          go_roundw
          case rel =>
            rw [pv_step _ _ hd]
            exact ⟨6, by omega, by go_num, rfl, HH.out.set1 _, Lib.hid (by simpa [hi] using HD.out)⟩
          case measure => simp [intOf]
        · have hn : Dt.isDig f = false := decide_eq_false (by omega)
          go_wp2
          rw [bad_told (by simp [hn])]
          refine bodyPost_ret (v := .tuple #[dayV 0 0 0, .int .i64 4]) (by simp [results, dayV, Try.results20, go_sem, b0, b1, b2]) rfl ⟨rfl, ?_⟩
          exact below_zero HW.out HB.out _ _ _
      · have hn : Dt.isDig f = false := decide_eq_false (by omega)
        go_wp2
        rw [bad_told (by simp [hn])]
        refine bodyPost_ret (v := .tuple #[dayV 0 0 0, .int .i64 4]) (by simp [results, dayV, Try.results20, go_sem, b0, b1, b2]) rfl ⟨rfl, ?_⟩
        exact below_zero HW.out HB.out _ _ _
    by_cases e6 : t = 6
    · subst e6
      by_cases hd : 48 ≤ g.toNat
      · by_cases hd2 : g.toNat ≤ 57
        · go_wp2
          go_region
          go_wp2
          obtain ⟨rfl, rfl, rfl⟩ := HE.out
          have hi : Dt.isDig g = true := decide_eq_true ⟨hd, hd2⟩
          go_roundw
          case rel =>
            rw [pv_step _ _ hd]
            exact ⟨7, by omega, by go_num, rfl, HH.out.set1 _, Lib.hid (by simpa [hi] using HD.out)⟩
          case measure => simp [intOf]
        · have hn : Dt.isDig g = false := decide_eq_false (by omega)
          go_wp2
          rw [bad_told (by simp [hn])]
          refine bodyPost_ret (v := .tuple #[dayV 0 0 0, .int .i64 4]) (by simp [results, dayV, Try.results20, go_sem, b0, b1, b2]) rfl ⟨rfl, ?_⟩
          exact below_zero HW.out HB.out _ _ _
      · have hn : Dt.isDig g = false := decide_eq_false (by omega)
        go_wp2
        rw [bad_told (by simp [hn])]
        refine bodyPost_ret (v := .tuple #[dayV 0 0 0, .int .i64 4]) (by simp [results, dayV, Try.results20, go_sem, b0, b1, b2]) rfl ⟨rfl, ?_⟩
        exact below_zero HW.out HB.out _ _ _
    by_cases e7 : t = 7
    · subst e7
      go_wp2
      go_roundw
      case rel => exact ⟨8, by omega, by go_num, rfl, HH.out, HD.out⟩
      case measure => simp [intOf]
    by_cases e8 : t = 8
    · subst e8
      by_cases hd : 48 ≤ i.toNat
      · by_cases hd2 : i.toNat ≤ 57
        · go_wp2
          go_region
          go_wp2
          obtain ⟨rfl, rfl, rfl⟩ := HE.out
          have hi : Dt.isDig i = true := decide_eq_true ⟨hd, hd2⟩
          go_roundw
          case rel =>
            rw [pv_step _ _ hd]
            exact ⟨9, by omega, by go_num, rfl, HH.out.set2 _, Lib.hid (by simpa [hi] using HD.out)⟩
          case measure => simp [intOf]
        · have hn : Dt.isDig i = false := decide_eq_false (by omega)
          go_wp2
          rw [bad_told (by simp [hn])]
          refine bodyPost_ret (v := .tuple #[dayV 0 0 0, .int .i64 4]) (by simp [results, dayV, Try.results20, go_sem, b0, b1, b2]) rfl ⟨rfl, ?_⟩
          exact below_zero HW.out HB.out _ _ _
      · have hn : Dt.isDig i = false := decide_eq_false (by omega)
        go_wp2
        rw [bad_told (by simp [hn])]
        refine bodyPost_ret (v := .tuple #[dayV 0 0 0, .int .i64 4]) (by simp [results, dayV, Try.results20, go_sem, b0, b1, b2]) rfl ⟨rfl, ?_⟩
        exact below_zero HW.out HB.out _ _ _
    by_cases e9 : t = 9
    · subst e9
      by_cases hd : 48 ≤ j.toNat
      · by_cases hd2 : j.toNat ≤ 57
        · go_wp2
          go_region
          go_wp2
          obtain ⟨rfl, rfl, rfl⟩ := HE.out
          have hi : Dt.isDig j = true := decide_eq_true ⟨hd, hd2⟩
          go_roundw
          case rel =>
            rw [pv_step _ _ hd]
            exact ⟨10, by omega, by go_num, rfl, HH.out.set2 _, Lib.hid (by simpa [hi] using HD.out)⟩
          case measure => simp [intOf]
        · have hn : Dt.isDig j = false := decide_eq_false (by omega)
          go_wp2
          rw [bad_told (by simp [hn])]
          refine bodyPost_ret (v := .tuple #[dayV 0 0 0, .int .i64 4]) (by simp [results, dayV, Try.results20, go_sem, b0, b1, b2]) rfl ⟨rfl, ?_⟩
          exact below_zero HW.out HB.out _ _ _
      · have hn : Dt.isDig j = false := decide_eq_false (by omega)
        go_wp2
        rw [bad_told (by simp [hn])]
        refine bodyPost_ret (v := .tuple #[dayV 0 0 0, .int .i64 4]) (by simp [results, dayV, Try.results20, go_sem, b0, b1, b2]) rfl ⟨rfl, ?_⟩
        exact below_zero HW.out HB.out _ _ _
    obtain rfl : t = 10 := by omega
    obtain ⟨ex, ey, ez⟩ := HE.out
    rw [show List.take 10 [a, b, c, d] = [a, b, c, d] from rfl] at ex
    rw [show List.take (10 - 5) [f, g] = [f, g] from rfl] at ey
    rw [show List.take (10 - 8) [i, j] = [i, j] from rfl] at ez
    have HP : Hid (Dt.parse [a, b, c, d, 45, f, g, 45, i, j] = some (x, y, z)) := Lib.hid (by rw [ex, ey, ez]; exact good_parse HD.out)
    clear ex ey ez HE HD HH
    clear e0 e1 e2 e3 e4 e5 e6 e7 e8 e9
    by_cases hr : Dt.rightB x y z = true
    · have HT := Lib.hid (Dt.told_some HP.out hr)
      go_wp2_with fail
      refine (refRight_any x y z _ _ (Below.refl _ _)).mono ?_
      rintro en w3 ⟨rfl, b3⟩
      obtain ⟨hc, hf⟩ := bcell b3
      have HB3 : Hid (Below w.heap.size w w3) := Lib.hid ((HB.out.alloc HB.out.size _).trans (b3.mono (HB.out.alloc HB.out.size _).size))
      have hz3 : w.heap.size + 2 < w3.heap.size := by have := b3.size; simp [hsz] at this; omega
      have c0 : w3.cell? ⟨w.heap.size, 0, none⟩ = some (.int .i64 0) := by rw [hc _ _ (by simp [hsz]; omega), World.cell?_alloc_past (hn := by omega)]; exact b0
      have c1 : w3.cell? ⟨w.heap.size, 1, none⟩ = some (.int .i64 0) := by rw [hc _ _ (by simp [hsz]; omega), World.cell?_alloc_past (hn := by omega)]; exact b1
      have c2 : w3.cell? ⟨w.heap.size, 2, none⟩ = some (.int .i64 0) := by rw [hc _ _ (by simp [hsz]; omega), World.cell?_alloc_past (hn := by omega)]; exact b2
      have cf : ∀ o, w3.frozen? ⟨w.heap.size, o, none⟩ = false := fun o => by rw [hf _ _ (by simp [hsz]; omega), World.frozen?_alloc_past (hn := by omega)]; exact bf o
      have d0 : w3.cell? ⟨w.heap.size + 2, 0, none⟩ = some (.int .i64 x) := by rw [hc _ _ (by simp [hsz]), World.cell?_alloc_at (hn := hsz.symm)]; rfl
      have d1 : w3.cell? ⟨w.heap.size + 2, 1, none⟩ = some (.int .i64 y) := by rw [hc _ _ (by simp [hsz]), World.cell?_alloc_at (hn := hsz.symm)]; rfl
      have d2 : w3.cell? ⟨w.heap.size + 2, 2, none⟩ = some (.int .i64 z) := by rw [hc _ _ (by simp [hsz]), World.cell?_alloc_at (hn := hsz.symm)]; rfl
      clear hc hf b3 a0 a1 a2 af b0 b1 b2 bf HB
      rw [hr]
      go_wp2_with fail
      rw [HT.out]
      refine bodyPost_ret (v := .tuple #[dayV x y z, .int .i64 0]) (by simp [results, dayV, Try.results20, go_sem, c0, c1, c2]) rfl ⟨rfl, ?_⟩
      exact below_zero HW.out HB3.out _ _ _
    · have hr' : Dt.rightB x y z = false := by simpa using hr
      have HT := Lib.hid (Dt.told_date HP.out hr')
      clear hr
      go_wp2_with fail
      refine (refRight_any x y z _ _ (Below.refl _ _)).mono ?_
      rintro en w3 ⟨rfl, b3⟩
      obtain ⟨hc, hf⟩ := bcell b3
      have HB3 : Hid (Below w.heap.size w w3) := Lib.hid ((HB.out.alloc HB.out.size _).trans (b3.mono (HB.out.alloc HB.out.size _).size))
      have hz3 : w.heap.size + 2 < w3.heap.size := by have := b3.size; simp [hsz] at this; omega
      have c0 : w3.cell? ⟨w.heap.size, 0, none⟩ = some (.int .i64 0) := by rw [hc _ _ (by simp [hsz]; omega), World.cell?_alloc_past (hn := by omega)]; exact b0
      have c1 : w3.cell? ⟨w.heap.size, 1, none⟩ = some (.int .i64 0) := by rw [hc _ _ (by simp [hsz]; omega), World.cell?_alloc_past (hn := by omega)]; exact b1
      have c2 : w3.cell? ⟨w.heap.size, 2, none⟩ = some (.int .i64 0) := by rw [hc _ _ (by simp [hsz]; omega), World.cell?_alloc_past (hn := by omega)]; exact b2
      have cf : ∀ o, w3.frozen? ⟨w.heap.size, o, none⟩ = false := fun o => by rw [hf _ _ (by simp [hsz]; omega), World.frozen?_alloc_past (hn := by omega)]; exact bf o
      have d0 : w3.cell? ⟨w.heap.size + 2, 0, none⟩ = some (.int .i64 x) := by rw [hc _ _ (by simp [hsz]), World.cell?_alloc_at (hn := hsz.symm)]; rfl
      have d1 : w3.cell? ⟨w.heap.size + 2, 1, none⟩ = some (.int .i64 y) := by rw [hc _ _ (by simp [hsz]), World.cell?_alloc_at (hn := hsz.symm)]; rfl
      have d2 : w3.cell? ⟨w.heap.size + 2, 2, none⟩ = some (.int .i64 z) := by rw [hc _ _ (by simp [hsz]), World.cell?_alloc_at (hn := hsz.symm)]; rfl
      clear hc hf b3 a0 a1 a2 af b0 b1 b2 bf HB
      rw [hr']
      go_wp2_with fail
      rw [HT.out]
      refine bodyPost_ret (v := .tuple #[dayV 0 0 0, .int .i64 9]) (by simp [results, dayV, Try.results20, go_sem, c0, c1, c2]) rfl ⟨rfl, ?_⟩
      exact below_zero HW.out HB3.out _ _ _
end Go.Proofs.Ytekegbnmmjhfiaa
