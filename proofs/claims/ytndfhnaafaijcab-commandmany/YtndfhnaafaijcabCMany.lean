/- THE WALK OF CommandMany. -/
import Derived.Test.YtndfhnaafaijcabMGn
import Derived.Test.YtndfhnaafaijcabMGe
import Derived.Test.YtndfhnaafaijcabMGc
set_option linter.unusedVariables false
set_option maxRecDepth 100000
namespace Go.Proofs.Ytndfhnaafaijcab
open Go.RowKit
open Mem Pk Cm

theorem evT {a : Act} {t : Tmp} {v : Value} (h : a.tmps.toList[t]? = some v) : a.eval (.tmp t) = v := by
  show a.tmps.getD t undef = v
  rw [Array.getElem?_toList] at h
  simp [Array.getD_eq_getD_getElem?, h]
theorem within_any (n lo hi : Int) (w : World) (_hn : Fit n) (h0 : 0 ≤ lo) (h1 : lo ≤ hi) (h2 : hi ≤ 4611686018427387904) :
    Calls Try.prog 4 #[.int .i64 n, .int .i64 lo, .int .i64 hi] w fun e w' => (∃ r : Int, e = .returned (.int .i64 r) ∧ lo ≤ r ∧ r ≤ hi) ∧ w' = w := by
  unfold Fit at _hn
  have a1 : n.tmod (hi - lo + 1) < hi - lo + 1 := Int.tmod_lt_of_pos _ (by omega)
  have a2 : -(hi - lo + 1) < n.tmod (hi - lo + 1) := by
    have := Int.tmod_lt_of_pos (-n) (show 0 < hi - lo + 1 by omega)
    rw [Int.neg_tmod] at this
    omega
  go_enter Try.func4, Try.ntmps4
  go_wp2
  all_goals go_ret
  all_goals exact ⟨⟨_, rfl, by omega, by omega⟩, rfl⟩
/-- a line of CommandMany, and its lines -/
def mline (i : Nat) : Ln.T := ⟨.empty, ⟨#[99]⟩, (i : Int), 0⟩
def mlines (k : Nat) : List Ln.T := (List.range k).map mline
theorem mlines_succ (k : Nat) : mlines (k + 1) = mlines k ++ [mline k] := by
  unfold mlines
  rw [List.range_succ, List.map_append]
  rfl
theorem mlines_len (k : Nat) : (mlines k).length = k := by
  unfold mlines
  simp
theorem mline_short (i : Nat) (h : i ≤ 1000) : Ln.Short (mline i) := ⟨empty_size, by show (1 : Nat) ≤ 140737488355328; omega, ⟨by show (-9223372036854775808 : Int) ≤ (i : Int); omega, by show (i : Int) ≤ 9223372036854775807; omega⟩, fit0⟩
theorem mlines_short (k : Nat) (h : k ≤ 1000) : ∀ r ∈ mlines k, Ln.Short r := by
  intro r hr
  obtain ⟨i, hi, rfl⟩ := List.mem_map.1 hr
  rw [List.mem_range] at hi
  exact mline_short i (by omega)
theorem mlines_any (k : Nat) : ((mlines k).any fun x => longT x.text || longT x.category) = false := by
  rw [List.any_eq_false]
  intro r hr
  obtain ⟨i, _, rfl⟩ := List.mem_map.1 hr
  rw [Bool.not_eq_true]
  rfl
theorem nm_le (n : Int) : (nm n).length ≤ 10 := vbF_len 10 _
theorem tx_le (s : ByteArray) : (tx s).length ≤ 10 + s.size := by
  unfold tx
  rw [List.length_append, txt_len]
  have := nm_le (s.size : Int)
  omega
theorem mline_len (i : Nat) : (lineB (mline i)).length ≤ 41 := by
  unfold lineB
  have h1 := tx_le (mline i).text
  have h2 := tx_le (mline i).category
  have h3 := nm_le (mline i).count
  have h4 := nm_le (mline i).price
  have e1 : (mline i).text.size = 0 := rfl
  have e2 : (mline i).category.size = 1 := rfl
  simp only [List.length_append]
  omega
theorem mlines_bytes : ∀ k, (linesB (mlines k)).length ≤ 41 * k
  | 0 => by simp [mlines, linesB]
  | k + 1 => by
    rw [mlines_succ, linesB_app, List.length_append]
    have := mlines_bytes k
    have := mline_len k
    simp only [linesB, List.append_nil]
    omega
theorem many_long {σ : ByteArray} {k : Nat} (h : 12 < k ∨ 64 < σ.size) : (S.pst σ 0 0 0 (mlines k)).long = true := by
  show (longT σ || longL (mlines k)) = true
  unfold longT longL
  rw [mlines_len]
  rcases h with h | h
  · rw [decide_eq_true h]
    simp
  · rw [decide_eq_true h]
    simp
theorem many_short {σ : ByteArray} {k : Nat} (h : ¬ (12 < k ∨ 64 < σ.size)) : (S.pst σ 0 0 0 (mlines k)).long = false := by
  show (longT σ || longL (mlines k)) = false
  unfold longL
  rw [longT_of (by omega), mlines_any, mlines_len, decide_eq_false (by omega)]
  rfl
theorem many_bytes {σ : ByteArray} {k : Nat} (h : ¬ (12 < k ∨ 64 < σ.size)) : (S.pst σ 0 0 0 (mlines k)).bytes.length ≤ 1024 := by
  show (nm 4 ++ (tx σ ++ (dayB 0 0 0 ++ (nm ((mlines k).length : Int) ++ linesB (mlines k))))).length ≤ 1024
  have h1 := nm_le 4
  have h2 := tx_le σ
  have h3 : (dayB 0 0 0).length ≤ 30 := by
    unfold dayB
    have := nm_le 0
    simp only [List.length_append]
    omega
  have h4 := nm_le ((mlines k).length : Int)
  have h5 := mlines_bytes k
  simp only [List.length_append]
  omega
def mcmd (σ : ByteArray) (ao : Option Addr) (n cap : Nat) : Cm.T := { Cm.T.zero with kind := 4, series := σ, ao := ao, n := n, cap := cap }
theorem ln_new (w : World) (r : Ln.T) : (w.alloc (.cells #[.string r.text, .string r.category, .int .i64 r.count, .int .i64 r.price] 34)).heap[w.heap.size]? = some (Ln.block r) := by
  exact heap_alloc_new w (Ln.block r)
theorem mcmd_bare (σ : ByteArray) (ao : Option Addr) (n cap : Nat) (ls : List Ln.T) : ((mcmd σ ao n cap).sem ls).bare = S.pst σ 0 0 0 ls := by
  simp [mcmd, Cm.T.sem, Cm.S.bare, Cm.S.pst, Cm.T.zero]
theorem mcmd_in {w : World} {σ : ByteArray} {ao : Option Addr} {n cap : Nat} {ls : List Ln.T} (hs : σ.size ≤ 70) (h : Ln.Ls w ao n cap ls) : Cm.In w (mcmd σ ao n cap) ls :=
  ⟨by show σ.size ≤ 140737488355328; omega, empty_size, empty_size, ⟨by show (-9223372036854775808 : Int) ≤ 4; omega, by show (4 : Int) ≤ 9223372036854775807; omega⟩, fit0, fit0, fit0, fit0, fit0, fit0, fit0, fit0, fit0, fit0, h⟩
theorem many_kind (σ : ByteArray) (ls : List Ln.T) : 1 ≤ (S.pst σ 0 0 0 ls).kind ∧ (S.pst σ 0 0 0 ls).kind ≤ 8 := by
  constructor
  · show (1 : Int) ≤ 4
    omega
  · show (4 : Int) ≤ 8
    omega
theorem many_putE {σ : ByteArray} {k : Nat} (h : 12 < k ∨ 64 < σ.size) : (S.pst σ 0 0 0 (mlines k)).putE = 2 ∧ (S.pst σ 0 0 0 (mlines k)).putB = [] := by
  have e := putE_long (many_kind σ (mlines k)) (.inl (many_long h))
  exact ⟨e, putB_no (by rw [e]; decide)⟩
theorem many_ok {σ : ByteArray} {k : Nat} (h : ¬ (12 < k ∨ 64 < σ.size)) (hg : (S.pst σ 0 0 0 (mlines k)).Good) : (S.pst σ 0 0 0 (mlines k)).putE = 0 ∧ (S.pst σ 0 0 0 (mlines k)).putB = (S.pst σ 0 0 0 (mlines k)).bytes ∧ Cm.get (S.pst σ 0 0 0 (mlines k)).bytes = (S.pst σ 0 0 0 (mlines k), 0) := by
  have e := putE_ok (many_kind σ (mlines k)) (by
    rintro (h1 | h1)
    · rw [many_short h] at h1
      cases h1
    · have := many_bytes h
      omega)
  exact ⟨e, putB_ok e, get_bytes hg (many_short h) (many_bytes h)⟩
theorem boxQ (w : World) (s : ByteArray) (y m d : Int) (x : Value) (h : x.oneCell' = true) : ∃ W, w.alloc (.cells #[.string s, .int .i64 y, .int .i64 m, .int .i64 d, x] 47) = W ∧ Below w.heap.size w W ∧ W.cell? ⟨w.heap.size, 0, none⟩ = some (.string s) ∧ W.cell? ⟨w.heap.size, 4, none⟩ = some x :=
  ⟨_, rfl, below_box (Below.refl _ _) _, by simp [go_sem], by simp [go_sem]⟩
set_option maxHeartbeats 16000000 in
theorem commandMany_walk (n m : Int) (w : World) (hn0 : (Lit.int .i64 n).wf = true) (hm0 : (Lit.int .i64 m).wf = true) :
    Calls Try.prog 3 #[.int .i64 n, .int .i64 m] w fun e w' => e = .returned (.bool true) ∧ Below w.heap.size w w' := by
  have HN := Lib.hid (fit_in hn0)
  have HM := Lib.hid (fit_in hm0)
  clear hn0 hm0
  go_enter Try.func3, Try.ntmps3
  go_wp2_with fail
  refine (within_any n 0 20 w HN.out (by omega) (by omega) (by omega)).mono ?_
  rintro e w1 ⟨⟨r, rfl, hr0, hr1⟩, rfl⟩
  rename World => w
  obtain ⟨k, rfl⟩ : ∃ k : Nat, r = k := ⟨r.toNat, by omega⟩
  go_wp2_with fail
  refine (within_any m 0 70 w HM.out (by omega) (by omega) (by omega)).mono ?_
  rintro e w1 ⟨⟨q, rfl, hq0, hq1⟩, rfl⟩
  rename World => w
  obtain ⟨z, rfl⟩ : ∃ z : Nat, q = z := ⟨q.toNat, by omega⟩
  have hmk := By.make z (by omega) w
  have hcv := ((By.block_made w z).ls (by rw [List.length_replicate]; omega)).str
  rw [List.length_replicate] at hcv
  obtain ⟨σ, hσ⟩ : ∃ σ, str (List.replicate z (0 : UInt8)) = σ := ⟨_, rfl⟩
  have hsz : σ.size = z := by
    rw [← hσ, ← txt_len]
    show (List.replicate z (0 : UInt8)).length = z
    simp
  rw [hσ] at hcv
  obtain ⟨Z, hZ⟩ : ∃ Z, w.alloc (.cells (By.zeros z) 5) = Z := ⟨_, rfl⟩
  have HZ0 : Hid (w.heap.size ≤ Z.heap.size) := Lib.hid (by rw [← hZ]; simp)
  have HBZ : Hid (Below w.heap.size w Z) := Lib.hid (hZ ▸ below_box (Below.refl _ _) _)
  rw [hZ] at hmk hcv
  obtain ⟨W1, hW1, d1, hB1⟩ := Cm.boxB Z (mcmd σ none 0 0)
  have HB1 := Lib.hid (bchain HBZ.out d1)
  have HSz := Lib.hid hsz
  have HBl := Lib.hid hB1
  clear d1 hσ hZ hsz hB1 HBZ
  go_wp2_with (first | (with_reducible apply Cm.wplB_new (c := mcmd σ none 0 0); rfl; rfl; kernel_rfl; rfl; kernel_rfl; kernel_rfl; rw [hW1]))
  clear hW1 hmk hcv
  have hlz := HBl.out.lt
  have hwz : w.heap.size ≤ Z.heap.size := HZ0.out
  go_loopw [8] (fun i wr => ∃ (j : Nat) (ao : Option Addr) (cap : Nat), j ≤ k ∧ i = .int .i64 j ∧ Hid (Ln.Own wr W1.heap.size (.slice ao j cap) (mlines j)) ∧ Hid (Cm.Blk wr Z.heap.size (mcmd σ ao j cap)) ∧ Hid (Below w.heap.size w wr ∧ W1.heap.size ≤ wr.heap.size)) (fun i _ => k - (intOf i).toNat)
  case atStart => exact ⟨0, none, 0, by omega, rfl, Lib.hid (Ln.own_nil _ _), HBl, Lib.hid ⟨HB1.out, Nat.le_refl _⟩⟩
  case round =>
    obtain ⟨j, ao, cap, hj, rfl, HO, HBj, HW⟩ := hrel
    by_cases hlt : j < k
    · have q11 := HBj.out.cell 11
      replace q11 : wr.cell? ⟨Z.heap.size, 11, none⟩ = some (.slice ao j cap) := q11
      have hbl := HBj.out.lt
      go_wp2_with (at_builtin; go_must (refine Ln.wpList_append _ rfl _ _ rfl W1.heap.size (.slice ao j cap) (mlines j) rfl (Ln.own_alloc HO.out _) (some ⟨wr.heap.size, 0, none⟩) 1 1 [mline j] rfl rfl (fun h => by cases h) (Ln.seg_block (ln_new wr (mline j))) (by rw [mlines_len]; omega) (by have := HW.out.2; simp; omega) ?_))
      intro v5 y5 o5 gr5 _
      have hb5 : Below W1.heap.size wr y5 := (((Below.refl W1.heap.size _).alloc (by have := HW.out.2; omega) _).grown gr5 (by have := HW.out.2; simp; omega) (Ln.own_ge HO.out))
      have hsz5 := hb5.size
      rw [← mlines_succ] at o5
      obtain ⟨ao5, cap5, rfl, _, hnew⟩ := Ln.own_ls o5 (mlines_short _ (by omega))
      rw [mlines_len] at o5 ⊢
      have hB5 : Cm.Blk y5 Z.heap.size (mcmd σ ao j cap) := (hb5.block _ (by omega)).trans HBj.out
      have HB6 : Hid (Cm.Blk (y5.setCell ⟨Z.heap.size, 11, none⟩ (.slice ao5 (j + 1) cap5)) Z.heap.size (mcmd σ ao5 (j + 1) cap5)) := Lib.hid (hB5.set 11 _ rfl)
      have HO6 : Hid (Ln.Own (y5.setCell ⟨Z.heap.size, 11, none⟩ (.slice ao5 (j + 1) cap5)) W1.heap.size (.slice ao5 (j + 1) cap5) (mlines (j + 1))) := Lib.hid (Ln.own_set o5 (fun h => by have := Ln.own_ge o5 _ h; omega))
      have HW6 : Hid (Below w.heap.size w (y5.setCell ⟨Z.heap.size, 11, none⟩ (.slice ao5 (j + 1) cap5)) ∧ W1.heap.size ≤ (y5.setCell ⟨Z.heap.size, 11, none⟩ (.slice ao5 (j + 1) cap5)).heap.size) := Lib.hid ⟨(HW.out.1.trans (hb5.mono (by omega))).setCell hwz _, by have := HW.out.2; simp; omega⟩
      have c11 := hB5.cell 11
      replace c11 : y5.cell? ⟨Z.heap.size, 11, none⟩ = some (.slice ao j cap) := c11
      have f11 := hB5.fz 11
      clear o5 gr5 hb5 hB5 q11 hnew
      go_wp2_with fail
      go_roundw
      case rel => exact ⟨j + 1, ao5, cap5, by omega, by go_num, HO6, HB6, HW6⟩
      case measure => simp [intOf]; omega
    · obtain rfl : j = k := by omega
      have HLk : Hid (Ln.Ls wr ao j cap (mlines j)) := Lib.hid (by
        obtain ⟨ao', cap', e, hl, _⟩ := Ln.own_ls HO.out (mlines_short _ (by omega))
        rw [mlines_len] at e hl
        cases e
        exact hl)
      have hBj := HBj.out
      have HIn : Hid (Cm.In wr (mcmd σ ao j cap) (mlines j)) := Lib.hid (mcmd_in (by have := HSz.out; omega) HLk.out)
      clear HO HBj hlt HB1 HBl
      go_wp2_with (first | (with_reducible apply Cm.wplG_load (g := Z.heap.size) (c := mcmd σ ao j cap); rfl; kernel_rfl; exact evT rfl; exact hBj))
      refine (of_any (mcmd σ ao j cap) (mlines j) wr HIn.out (by show j ≤ 100000; omega)).mono ?_
      rintro e w2 ⟨⟨v, rfl, hV⟩, b2⟩
      rw [mcmd_bare] at hV
      obtain ⟨W2, hst, d2, k2⟩ := boxS w2 v hV.is.oneCell
      have HB2 := Lib.hid (bchain (bchain HW.out.1 b2) d2)
      have HV := Lib.hid (hV.is.below d2)
      have HIn2 := Lib.hid ((HIn.out.below b2).below d2)
      replace hBj := (hBj.below b2).below d2
      have HG : Hid (S.pst σ 0 0 0 (mlines j)).Good := Lib.hid (HV.out.kind_pos (by have := (many_kind σ (mlines j)).1; omega))
      clear b2 d2 hV HLk HIn HW
      unfold Cm.cv
      go_wp2_with fail
      clear hst
      refine (put_any _ v W2 HV.out).mono ?_
      rintro e w3 ⟨⟨ao3, n3, cap3, rfl, hL3⟩, b3⟩
      have HB3 := Lib.hid (bchain HB2.out b3)
      have HIn3 := Lib.hid (HIn2.out.below b3)
      replace hBj := hBj.below b3
      have HL3 := Lib.hid hL3
      clear b3 k2 hL3 HV HIn2 HB2
      by_cases hlg : 12 < j ∨ 64 < z
      · have HE : Hid ((S.pst σ 0 0 0 (mlines j)).putE = 2 ∧ (S.pst σ 0 0 0 (mlines j)).putB = []) := Lib.hid (many_putE (by rw [HSz.out]; exact hlg))
        rw [HE.out.1]
        rw [HE.out.2] at HL3
        have hn3 : n3 = 0 := HL3.out.len
        subst hn3
        by_cases h12 : 12 < j
        · go_wp2_with fail
          refine (cruns w3).mono ?_
          rintro e y5 ⟨rfl, b5⟩
          have HB5 := Lib.hid (bchain HB3.out b5)
          clear b5
          go_wp2_with fail
          go_ret
          exact ⟨rfl, HB5.out⟩
        · have h64 : 64 < z := by omega
          go_wp2_with fail
          refine (cruns w3).mono ?_
          rintro e y5 ⟨rfl, b5⟩
          have HB5 := Lib.hid (bchain HB3.out b5)
          clear b5
          go_wp2_with fail
          go_ret
          exact ⟨rfl, HB5.out⟩
      · have h12 : ¬ 12 < j := by omega
        have h64 : ¬ 64 < z := by omega
        have HE : Hid ((S.pst σ 0 0 0 (mlines j)).putE = 0 ∧ (S.pst σ 0 0 0 (mlines j)).putB = (S.pst σ 0 0 0 (mlines j)).bytes ∧ Cm.get (S.pst σ 0 0 0 (mlines j)).bytes = (S.pst σ 0 0 0 (mlines j), 0)) := Lib.hid (many_ok (by rw [HSz.out]; exact hlg) HG.out)
        rw [HE.out.1]
        rw [HE.out.2.1] at HL3
        have hc3 := HL3.out.reach
        have hf3 := HL3.out.fits
        go_wp2_with fail
        refine (get_any _ ao3 n3 cap3 w3 HL3.out).mono ?_
        rintro e w4 ⟨⟨u, rfl, hU⟩, b4⟩
        rw [HE.out.2.2] at hU ⊢
        dsimp only at hU ⊢
        obtain ⟨W4, hst4, d4, k4⟩ := boxS w4 u hU.is.oneCell
        have HB4 := Lib.hid (bchain (bchain HB3.out b4) d4)
        have HU4 := Lib.hid (hU.is.below d4)
        have HIn4 := Lib.hid ((HIn3.out.below b4).below d4)
        replace hBj := (hBj.below b4).below d4
        clear b4 d4 hU
        unfold Cm.cv
        go_wp2_with fail
        clear hst4
        refine (must_ok _ u W4 HU4.out rfl).mono ?_
        rintro e w5 ⟨⟨ao5, cap5, rfl, hL5⟩, b5⟩
        replace hL5 : Ln.Ls w5 ao5 (mlines j).length cap5 (mlines j) := hL5
        rw [show (S.pst σ 0 0 0 (mlines j)).lines.length = j from mlines_len j]
        rw [mlines_len] at hL5
        obtain ⟨W5, hW5, d5, p0, p4⟩ := boxQ w5 σ 0 0 0 (.slice ao5 j cap5) rfl
        have HB5 := Lib.hid (bchain (bchain HB4.out b5) d5)
        have HIn5 := Lib.hid ((HIn4.out.below b5).below d5)
        have HL5 := Lib.hid (hL5.below d5)
        replace hBj := (hBj.below b5).below d5
        have q1 := hBj.cell 1
        replace q1 : W5.cell? ⟨Z.heap.size, 1, none⟩ = some (.string σ) := q1
        have q11 := hBj.cell 11
        replace q11 : W5.cell? ⟨Z.heap.size, 11, none⟩ = some (.slice ao j cap) := q11
        have hlB := hBj.lt
        clear b5 d5 hL5 hBj k4
        unfold S.pst
        dsimp only
        go_wp2_with (first | rw [hW5])
        refine (Ln.same_any (mlines j) (mlines j) ao5 ao j j cap5 cap W5 W5 (Below.refl _ _) HL5.out HIn5.out.lines).mono ?_
        rintro e w6 ⟨rfl, b6⟩
        rw [show Ln.sameB (mlines j) (mlines j) = true from (Ln.sameB_iff _ _).2 rfl]
        have HB6 := Lib.hid (bchain HB5.out b6)
        clear b6 hW5 p0 p4 q1 q11
        go_wp2_with fail
        refine (cruns w6).mono ?_
        rintro e y5 ⟨rfl, b5⟩
        have HB7 := Lib.hid (bchain HB6.out b5)
        clear b5
        go_wp2_with fail
        go_ret
        exact ⟨rfl, HB7.out⟩
end Go.Proofs.Ytndfhnaafaijcab
