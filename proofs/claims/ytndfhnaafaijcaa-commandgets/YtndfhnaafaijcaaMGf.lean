/- MERGED: CdW, CdL, CdP, CdQ. (By mg.py.) -/
import Derived.Test.YtndfhnaafaijcaaMGd
/- CONTRACTS OF PACKAGE command: a writer: num, text, day. -/
set_option linter.unusedVariables false
namespace Go.Proofs.Ytndfhnaafaijcaa
open Go.RowKit
open Mem Pk Cm

/-- a writer's block and its bytes -/
structure Wr (w : World) (p : Nat) (ao : Option Addr) (n cap : Nat) (bs : List UInt8) (long : Bool) : Prop where
  c0 : w.cell? ⟨p, 0, none⟩ = some (.slice ao n cap)
  c1 : w.cell? ⟨p, 1, none⟩ = some (.bool long)
  fz : ∀ o, w.frozen? ⟨p, o, none⟩ = false
  ls : By.Ls w ao n cap bs
  apart : ∀ b off, ao = some ⟨b, off, none⟩ → b ≠ p
def WrE (w : World) (p : Nat) (bs : List UInt8) (long : Bool) : Prop := ∃ ao n cap, Wr w p ao n cap bs long
theorem Wr.below {w w' : World} {p : Nat} {ao : Option Addr} {n cap : Nat} {bs : List UInt8} {l : Bool} (h : Wr w p ao n cap bs l) (k : Below w.heap.size w w') : Wr w' p ao n cap bs l := by
  have hl := cell_lt h.c0
  exact ⟨by rw [(bcell k).1 _ _ hl]; exact h.c0, by rw [(bcell k).1 _ _ hl]; exact h.c1, fun o => by rw [(bcell k).2 _ _ hl]; exact h.fz o, h.ls.below k, h.apart⟩
theorem WrE.below {w w' : World} {p : Nat} {bs : List UInt8} {l : Bool} (h : WrE w p bs l) (k : Below w.heap.size w w') : WrE w' p bs l := by
  obtain ⟨ao, n, cap, h⟩ := h
  exact ⟨ao, n, cap, h.below k⟩
theorem WrE.lt {w : World} {p : Nat} {bs : List UInt8} {l : Bool} (h : WrE w p bs l) : p < w.heap.size := by
  obtain ⟨ao, n, cap, h⟩ := h
  exact cell_lt h.c0
theorem Wr.long {w : World} {p : Nat} {ao : Option Addr} {n cap : Nat} {bs : List UInt8} {l : Bool} (h : Wr w p ao n cap bs l) (x : Bool) : Wr (w.setCell ⟨p, 1, none⟩ (.bool x)) p ao n cap bs x :=
  ⟨by simp [go_sem, h.c0], by simp [go_sem, h.c1], fun o => by simp [go_sem, h.fz], h.ls.upd (Upd.set _) h.apart, h.apart⟩
theorem Wr.put {w : World} {p g : Nat} {ao : Option Addr} {n cap : Nat} {bs bs' : List UInt8} {l : Bool} (h : Wr w p ao n cap bs l) (hb : By.Block w g bs') (hg : g ≠ p) (N : Nat) (hN : N = bs'.length) (hm : bs'.length ≤ 9223372036854775807) :
    Wr (w.setCell ⟨p, 0, none⟩ (.slice (some ⟨g, 0, none⟩) N N)) p (some ⟨g, 0, none⟩) N N bs' l := by
  subst hN
  exact ⟨by simp [go_sem, h.c0], by simp [go_sem, h.c1], fun o => by simp [go_sem, h.fz], (hb.ls hm).upd (Upd.set _) (fun b off e => by cases e; exact hg), fun b off e => by cases e; exact hg⟩
theorem nm_len (n : Int) : (nm n).length ≤ 10 := vbF_len 10 _
theorem tx_len (s : ByteArray) : (tx s).length ≤ 10 + s.size := by
  unfold tx
  rw [List.length_append, txt_len]
  have := nm_len (s.size : Int)
  omega
set_option maxHeartbeats 1000000 in
theorem wr_num (p : Nat) (bs : List UInt8) (l : Bool) (n : Int) (w : World) (hW : WrE w p bs l) (hn : Fit n) (hm : bs.length ≤ 1000000) :
    Calls Try.prog 31 #[.pointer (some ⟨p, 0, none⟩), .int .i64 n] w fun e w' => e = .returned (.tuple #[]) ∧ WrE w' p (bs ++ nm n) l ∧ Upd w p w' := by
  obtain ⟨ao, k, cap, h⟩ := hW
  have HW := Lib.hid h
  have HM := Lib.hid hm
  have HF := Lib.hid hn
  have hlt := cell_lt h.c0
  obtain ⟨c0, c1, fz, hls, hap⟩ := h
  have hk : k ≤ 1000000 := by rw [hls.len]; exact hm
  clear hls hap hn hm
  go_enter Try.func31, Try.ntmps31
  go_wp2_with fail
  refine (pack_num bs n HF.out ao k cap w HW.out.ls (by omega)).mono ?_
  rintro e w1 ⟨⟨g, rfl, hg, hblk⟩, b1⟩
  have HW1 := Lib.hid (HW.out.below b1)
  have d0 := HW1.out.c0
  have df := HW1.out.fz
  have HB1 := Lib.hid b1
  have HBk := Lib.hid hblk
  clear c0 c1 fz b1 hblk
  go_wp2_with fail
  go_end0
  refine ⟨rfl, ⟨_, _, _, HW1.out.put (bs' := bs ++ nm n) HBk.out (by omega) _ (by rw [List.length_append, HW.out.ls.len]; rfl) (by rw [List.length_append]; have := nm_len n; have := HM.out; omega)⟩, (Upd.of p HB1.out).trans (Upd.set _)⟩
/-- a text written, or not -/
def wrT (bs : List UInt8) (s : ByteArray) : List UInt8 := if 64 < s.size then bs else bs ++ tx s
theorem wrT_no {bs : List UInt8} {s : ByteArray} (h : 64 < s.size) : wrT bs s = bs := if_pos h
theorem wrT_yes {bs : List UInt8} {s : ByteArray} (h : ¬ 64 < s.size) : wrT bs s = bs ++ tx s := if_neg h
theorem wrT_ok {bs : List UInt8} {s : ByteArray} (h : longT s = false) : wrT bs s = bs ++ tx s := wrT_yes (by have := longT_no h; omega)
theorem wrT_len (bs : List UInt8) (s : ByteArray) : (wrT bs s).length ≤ bs.length + 74 := by
  by_cases h : 64 < s.size
  · rw [wrT_no h]
    omega
  · rw [wrT_yes h, List.length_append]
    have := tx_len s
    omega
set_option maxHeartbeats 1000000 in
theorem wr_text (p : Nat) (bs : List UInt8) (l : Bool) (s : ByteArray) (w : World) (hW : WrE w p bs l) (hs : s.size ≤ 140737488355328) (hm : bs.length ≤ 1000000) :
    Calls Try.prog 50 #[.pointer (some ⟨p, 0, none⟩), .string s] w fun e w' => e = .returned (.tuple #[]) ∧ WrE w' p (wrT bs s) (l || longT s) ∧ Upd w p w' := by
  obtain ⟨ao, k, cap, h⟩ := hW
  have HW := Lib.hid h
  have HM := Lib.hid hm
  have hlt := cell_lt h.c0
  obtain ⟨c0, c1, fz, hls, hap⟩ := h
  have hk : k ≤ 1000000 := by rw [hls.len]; exact hm
  clear hls hap hm
  by_cases h64 : 64 < s.size
  · have HT : Hid (wrT bs s = bs ∧ (l || longT s) = true) := Lib.hid ⟨wrT_no h64, by rw [show longT s = true from decide_eq_true h64, Bool.or_true]⟩
    have a1 : (64 : Int) < (s.size : Int) := by omega
    go_enter Try.func50, Try.ntmps50
    go_wp2_with fail
    refine bodyPost_ret (v := .tuple #[]) (by simp [results, Try.results50]) rfl ?_
    rw [HT.out.1, HT.out.2]
    exact ⟨rfl, ⟨_, _, _, HW.out.long true⟩, Upd.set _⟩
  · have HT : Hid (wrT bs s = bs ++ vb (zz (s.size : Int)) ++ txt s ∧ (l || longT s) = l) := Lib.hid ⟨by rw [wrT_yes h64]; unfold tx nm; rw [List.append_assoc], by rw [show longT s = false from decide_eq_false h64, Bool.or_false]⟩
    have a1 : ¬ (64 : Int) < (s.size : Int) := by omega
    go_enter Try.func50, Try.ntmps50
    go_wp2_with fail
    refine (pack_text bs s (by omega) ao k cap w HW.out.ls (by omega)).mono ?_
    rintro e w1 ⟨⟨g, N, rfl, hN, hg, hblk⟩, b1⟩
    have HW1 := Lib.hid (HW.out.below b1)
    have d0 := HW1.out.c0
    have df := HW1.out.fz
    have HB1 := Lib.hid b1
    have HBk := Lib.hid hblk
    have HN := Lib.hid hN
    clear c0 c1 fz b1 hblk hN
    go_wp2_with fail
    go_end0
    rw [HT.out.1, HT.out.2]
    refine ⟨rfl, ⟨_, _, _, HW1.out.put HBk.out (by omega) _ HN.out ?_⟩, (Upd.of p HB1.out).trans (Upd.set _)⟩
    have h1 := nm_len (s.size : Int)
    unfold nm at h1
    have h2 := HM.out
    rw [List.length_append, List.length_append, txt_len]
    omega
set_option maxHeartbeats 1000000 in
theorem wr_day (p : Nat) (bs : List UInt8) (l : Bool) (y m d : Int) (w : World) (hW : WrE w p bs l) (hy : Fit y) (hmo : Fit m) (hd : Fit d) (hm : bs.length ≤ 900000) :
    Calls Try.prog 51 #[.pointer (some ⟨p, 0, none⟩), .agg #[.int .i64 y, .int .i64 m, .int .i64 d]] w fun e w' => e = .returned (.tuple #[]) ∧ WrE w' p (bs ++ dayB y m d) l ∧ Upd w p w' := by
  have hlt := hW.lt
  have hb0 : Below w.heap.size w (w.alloc (.cells #[.int .i64 y, .int .i64 m, .int .i64 d] 30)) := (Below.refl _ _).alloc (Nat.le_refl _) _
  have HB0 := Lib.hid hb0
  have HW := Lib.hid (hW.below hb0)
  have HM := Lib.hid hm
  have HF := Lib.hid (And.intro hy (And.intro hmo hd))
  have ly := nm_len y
  have lm := nm_len m
  have HL1 : Hid ((bs ++ nm y).length ≤ 1000000) := Lib.hid (by rw [List.length_append]; omega)
  have HL2 : Hid ((bs ++ nm y ++ nm m).length ≤ 1000000) := Lib.hid (by rw [List.length_append, List.length_append]; omega)
  clear hW hb0 hm ly lm hy hmo hd
  go_enter Try.func51, Try.ntmps51
  go_wp2_with fail
  refine (wr_num p bs l y _ HW.out HF.out.1 (by have := HM.out; omega)).mono ?_
  rintro e w1 ⟨rfl, hW1, hU1⟩
  have d1 : w1.cell? ⟨w.heap.size, 1, none⟩ = some (.int .i64 m) := by rw [hU1.cell _ _ (by simp) (by omega)]; simp [go_sem]
  have d2 : w1.cell? ⟨w.heap.size, 2, none⟩ = some (.int .i64 d) := by rw [hU1.cell _ _ (by simp) (by omega)]; simp [go_sem]
  have HW1 := Lib.hid hW1
  have hs1 : w.heap.size < w1.heap.size := cell_lt d1
  have HU1 := Lib.hid ((Upd.of p HB0.out).trans hU1)
  clear hW1 hU1
  go_wp2_with fail
  refine (wr_num p _ l m _ HW1.out HF.out.2.1 HL1.out).mono ?_
  rintro e w2 ⟨rfl, hW2, hU2⟩
  have e2 : w2.cell? ⟨w.heap.size, 2, none⟩ = some (.int .i64 d) := by rw [hU2.cell _ _ hs1 (by omega)]; exact d2
  have HW2 := Lib.hid hW2
  have HU2 := Lib.hid (HU1.out.trans hU2)
  clear hW2 hU2 d1 d2
  go_wp2_with fail
  refine (wr_num p _ l d _ HW2.out HF.out.2.2 HL2.out).mono ?_
  rintro e w3 ⟨rfl, hW3, hU3⟩
  have HW3 := Lib.hid hW3
  have HU3 := Lib.hid (HU2.out.trans hU3)
  clear hW3 hU3 e2
  go_wp2_with fail
  go_end0
  refine ⟨rfl, ?_, HU3.out⟩
  unfold dayB
  rw [← List.append_assoc, ← List.append_assoc]
  exact HW3.out
end Go.Proofs.Ytndfhnaafaijcaa

/- CONTRACTS OF PACKAGE command: a writer: lines. -/
set_option linter.unusedVariables false
namespace Go.Proofs.Ytndfhnaafaijcaa
open Go.RowKit
open Mem Pk Cm

theorem Ln.C.upd {u v : World} {p b : Nat} {r : Ln.T} (h : Ln.C u b r) (k : Upd u p v) (hp : b ≠ p) : Ln.C v b r := by
  obtain ⟨h0, h1, h2, h3⟩ := h
  have hl := cell_lt h0
  unfold Ln.C
  rw [k.cell _ _ hl hp, k.cell _ _ hl hp, k.cell _ _ hl hp, k.cell _ _ hl hp]
  exact ⟨h0, h1, h2, h3⟩
/-- a line's texts, one of them too long -/
def longX (x : Ln.T) : Bool := longT x.text || longT x.category
theorem longL_is (l : List Ln.T) (h : l.length ≤ 12) : longL l = l.any longX := by
  unfold longL
  rw [decide_eq_false (by omega), Bool.false_or]
  rfl
theorem longL_many {l : List Ln.T} (h : 12 < l.length) : longL l = true := by
  unfold longL
  rw [decide_eq_true h, Bool.true_or]
theorem any_next (ls : List Ln.T) (k : Nat) (h : k < ls.length) : (ls.take (k + 1)).any longX = ((ls.take k).any longX || longX ls[k]) := by
  rw [List.take_succ_eq_append_getElem h, List.any_append]
  simp
theorem linesB_next (ls : List Ln.T) (k : Nat) (h : k < ls.length) : linesB (ls.take (k + 1)) = linesB (ls.take k) ++ lineB ls[k] := by
  rw [List.take_succ_eq_append_getElem h, linesB_app]
  simp [linesB]
/-- a line written -/
def wrX (bs : List UInt8) (x : Ln.T) : List UInt8 := wrT (wrT bs x.text) x.category ++ nm x.count ++ nm x.price
theorem wrX_len (bs : List UInt8) (x : Ln.T) : (wrX bs x).length ≤ bs.length + 168 := by
  unfold wrX
  have h1 := wrT_len bs x.text
  have h2 := wrT_len (wrT bs x.text) x.category
  have h3 := nm_len x.count
  have h4 := nm_len x.price
  rw [List.length_append, List.length_append]
  omega
theorem wrX_ok {bs : List UInt8} {x : Ln.T} (h : longX x = false) : wrX bs x = bs ++ lineB x := by
  unfold longX at h
  rw [Bool.or_eq_false_iff] at h
  unfold wrX lineB
  rw [wrT_ok h.1, wrT_ok h.2]
  simp only [List.append_assoc]
set_option maxHeartbeats 4000000 in
theorem wr_lines (p : Nat) (bs : List UInt8) (l : Bool) (ao : Option Addr) (n cap : Nat) (ls : List Ln.T) (w : World) (hW : WrE w p bs l) (hL : Ln.Ls w ao n cap ls) (hap : 0 < n → ∀ b off, ao = some ⟨b, off, none⟩ → b ≠ p) (hm : bs.length ≤ 500000) :
    Calls Try.prog 52 #[.pointer (some ⟨p, 0, none⟩), .slice ao n cap] w fun e w' => e = .returned (.tuple #[]) ∧ (∃ bs', WrE w' p bs' (l || longL ls) ∧ (longL ls = false → bs' = bs ++ (nm (ls.length : Int) ++ linesB ls)) ∧ bs'.length ≤ bs.length + 2100) ∧ Upd w p w' := by
  have hlt := hW.lt
  have HW := Lib.hid hW
  have HL := Lib.hid hL
  have HN := Lib.hid hL.len
  have HAp := Lib.hid hap
  have HM := Lib.hid hm
  have hcap := hL.reach
  have hfit := hL.fits
  clear hL hap hm
  by_cases h12 : 12 < n
  · obtain ⟨ao0, n0, cap0, h0⟩ := hW
    have c0 := h0.c0
    have c1 := h0.c1
    have fz := h0.fz
    have H0 := Lib.hid h0
    have HT : Hid ((l || longL ls) = true ∧ longL ls = true) := Lib.hid ⟨by rw [longL_many (by rw [← HN.out]; exact h12), Bool.or_true], longL_many (by rw [← HN.out]; exact h12)⟩
    clear h0
    go_enter Try.func52, Try.ntmps52
    go_wp2_with fail
    refine bodyPost_ret (v := .tuple #[]) (by simp [results, Try.results52]) rfl ?_
    rw [HT.out.1, HT.out.2]
    exact ⟨rfl, ⟨bs, ⟨_, _, _, H0.out.long true⟩, (fun h => by cases h), by omega⟩, Upd.set _⟩
  · have HT : Hid (longL ls = ls.any longX) := Lib.hid (longL_is ls (by rw [← HN.out]; omega))
    have HNm : Hid (((n : Nat) : Int) = (ls.length : Int)) := Lib.hid (by rw [HN.out])
    clear hW
    go_enter Try.func52, Try.ntmps52
    go_wp2_with fail
    refine (wr_num p bs l (n : Int) w HW.out ⟨by omega, by omega⟩ (by have := HM.out; omega)).mono ?_
    rintro e w1 ⟨rfl, hW1, hU1⟩
    have HW1 := Lib.hid hW1
    have HU1 := Lib.hid hU1
    have hl1 := nm_len (n : Int)
    have HLen1 : Hid ((bs ++ nm (n : Int)).length ≤ bs.length + 10) := Lib.hid (by rw [List.length_append]; omega)
    clear hW1 hU1 hl1
    go_wp2_with fail
    go_loopw [5, 18] (fun _ i wr => ∃ (k : Nat) (bk : List UInt8), k ≤ n ∧ i = .int .i64 k ∧ Hid (WrE wr p bk (l || (ls.take k).any longX)) ∧ Hid ((ls.take k).any longX = false → bk = bs ++ nm (n : Int) ++ linesB (ls.take k)) ∧ Hid (bk.length ≤ bs.length + 10 + 168 * k) ∧ Hid (Upd w p wr)) (fun _ i _ => n - (intOf i).toNat)
    case atStart => exact ⟨0, bs ++ nm (n : Int), by omega, rfl, Lib.hid (by simpa using HW1.out), Lib.hid (fun _ => by simp [linesB]), Lib.hid (by have := HLen1.out; omega), HU1⟩
    case round =>
      obtain ⟨k, bk, hk, rfl, HWk, HBk, HLk, HUk⟩ := hrel
      by_cases hlt2 : k < n
      · obtain ⟨b, off, rfl⟩ := HL.out.at (by omega)
        have hkr : k < ls.length := HN.out ▸ hlt2
        obtain ⟨r, hr⟩ : ∃ r, ls[k] = r := ⟨_, rfl⟩
        have hrow := (HL.out.row k hkr).upd HUk.out (HAp.out (by omega) b off rfl)
        have HSh : Hid (Ln.Short r) := Lib.hid (HL.out.short r (hr ▸ List.getElem_mem hkr))
        have HAny := Lib.hid (any_next ls k hkr)
        have HLin := Lib.hid (linesB_next ls k hkr)
        rw [hr] at hrow HAny HLin
        clear hr
        obtain ⟨g0, g1, g2, g3⟩ := hrow
        obtain ⟨W, hW, hbW, hA⟩ := Ln.boxed1 wr r
        have hpr : wr.heap.size ≠ p := by have := HUk.out.size; omega
        have HC := Lib.hid hA
        have HWW := Lib.hid (HWk.out.below hbW)
        have HUW := Lib.hid (HUk.out.trans (Upd.of p hbW))
        have HM1 : Hid (bk.length ≤ 502026) := Lib.hid (by have := HLk.out; have := HM.out; omega)
        have hl1 := wrT_len bk r.text
        have hl2 := wrT_len (wrT bk r.text) r.category
        have hl3 := nm_len r.count
        have HM2 : Hid ((wrT bk r.text).length ≤ 1000000) := Lib.hid (by have := HM1.out; omega)
        have HM3 : Hid ((wrT (wrT bk r.text) r.category).length ≤ 1000000) := Lib.hid (by have := HM1.out; omega)
        have HM4 : Hid ((wrT (wrT bk r.text) r.category ++ nm r.count).length ≤ 1000000) := Lib.hid (by rw [List.length_append]; have := HM1.out; omega)
        unfold Ln.C at hA
        obtain ⟨a0, a1, a2, a3⟩ := hA
        clear hbW hl1 hl2 hl3
        go_wp2_with fail
        refine (wr_text p bk _ r.text _ HWW.out HSh.out.1 (by have := HM1.out; omega)).mono ?_
        rintro e w2 ⟨rfl, hW2, hU2⟩
        have hC2 := HC.out.upd hU2 hpr
        have HC2 := Lib.hid hC2
        have HW2 := Lib.hid hW2
        have HU2 := Lib.hid (HUW.out.trans hU2)
        unfold Ln.C at hC2
        obtain ⟨b0, b1, b2, b3⟩ := hC2
        clear hW hW2 hU2 a0 a1 a2 a3 g0 g1 g2 g3
        go_wp2_with fail
        refine (wr_text p _ _ r.category _ HW2.out HSh.out.2.1 HM2.out).mono ?_
        rintro e w3 ⟨rfl, hW3, hU3⟩
        have hC3 := HC2.out.upd hU3 hpr
        have HC3 := Lib.hid hC3
        have HW3 := Lib.hid hW3
        have HU3 := Lib.hid (HU2.out.trans hU3)
        unfold Ln.C at hC3
        obtain ⟨d0, d1, d2, d3⟩ := hC3
        clear hW3 hU3 b0 b1 b2 b3
        go_wp2_with fail
        refine (wr_num p _ _ r.count _ HW3.out HSh.out.2.2.1 HM3.out).mono ?_
        rintro e w4 ⟨rfl, hW4, hU4⟩
        have hC4 := HC3.out.upd hU4 hpr
        have HW4 := Lib.hid hW4
        have HU4 := Lib.hid (HU3.out.trans hU4)
        unfold Ln.C at hC4
        obtain ⟨e0, e1, e2, e3⟩ := hC4
        clear hW4 hU4 d0 d1 d2 d3
        go_wp2_with fail
        refine (wr_num p _ _ r.price _ HW4.out HSh.out.2.2.2 HM4.out).mono ?_
        rintro e w5 ⟨rfl, hW5, hU5⟩
        have HW5 := Lib.hid hW5
        have HU5 := Lib.hid (HU4.out.trans hU5)
        clear hW5 hU5 e0 e1 e2 e3
        go_wp2_with fail
        go_roundw
        case rel =>
          refine ⟨k + 1, wrX bk r, by omega, by go_num, Lib.hid ?_, Lib.hid ?_, Lib.hid ?_, HU5⟩
          · rw [HAny.out]
            unfold longX
            rw [← Bool.or_assoc, ← Bool.or_assoc]
            exact HW5.out
          · intro h
            rw [HAny.out, Bool.or_eq_false_iff] at h
            rw [wrX_ok h.2, HBk.out h.1, HLin.out]
            simp only [List.append_assoc]
          · have := wrX_len bk r
            have := HLk.out
            omega
        case measure => simp [intOf]; omega
      · obtain rfl : k = n := by omega
        have HTk : Hid (ls.take k = ls) := Lib.hid (List.take_of_length_le (by rw [← HN.out]; exact Nat.le_refl _))
        go_wp2_with fail
        go_end0
        refine ⟨rfl, ⟨bk, ?_, ?_, ?_⟩, HUk.out⟩
        · rw [HT.out]
          have := HWk.out
          rw [HTk.out] at this
          exact this
        · intro h
          rw [HT.out] at h
          have := HBk.out (by rw [HTk.out]; exact h)
          rw [this, HTk.out, HNm.out, List.append_assoc]
        · have := HLk.out
          omega
end Go.Proofs.Ytndfhnaafaijcaa

/- CONTRACTS OF PACKAGE command: a writer: fields. (By genfields.py.) -/
set_option linter.unusedVariables false
set_option maxRecDepth 100000
namespace Go.Proofs.Ytndfhnaafaijcaa
open Go.RowKit
open Mem Pk Cm
theorem Ln.Ls.updN {w w' : World} {p : Nat} {ao : Option Addr} {n cap : Nat} {rs : List Ln.T} (h : Ln.Ls w ao n cap rs) (k : Upd w p w') (hp : 0 < n → ∀ b off, ao = some ⟨b, off, none⟩ → b ≠ p) : Ln.Ls w' ao n cap rs := by
  by_cases h0 : 0 < n
  · exact h.upd k (hp h0)
  · have e : rs = [] := List.length_eq_zero_iff.1 (by rw [← h.len]; omega)
    exact ⟨h.len, h.fits, h.reach, h.nil, .inl e, h.short⟩
theorem dayB_len (y m d : Int) : (dayB y m d).length ≤ 30 := by
  unfold dayB
  have := nm_len y
  have := nm_len m
  have := nm_len d
  rw [List.length_append, List.length_append]
  omega
/-- what is asked of fields -/
def FieldsE (p : Nat) (bs : List UInt8) (l : Bool) (s : S) (w : World) (e : Ending) (w' : World) : Prop :=
  e = .returned (.tuple #[]) ∧ (∃ bs', WrE w' p bs' (l || s.long) ∧ (s.long = false → bs' = bs ++ s.fields) ∧ bs'.length ≤ bs.length + 3000) ∧ Upd w p w'
set_option maxHeartbeats 4000000 in
theorem fields_1 (p : Nat) (bs : List UInt8) (l : Bool) (w : World) (hW : WrE w p bs l) (hm : bs.length ≤ 100000) (series : ByteArray) (limit : Int) (h_series : series.size ≤ 140737488355328) (h_limit : Fit limit) :
    Calls Try.prog 32 #[.pointer (some ⟨p, 0, none⟩), Cm.cv (.iface 73 (.agg #[.string series, .int .i64 limit]))] w (FieldsE p bs l (S.opn series limit) w) := by
  have hlt := hW.lt
  have HM := Lib.hid hm
  have a_open := ask_open_open
  have hb0 : Below w.heap.size w ((w.alloc (.cells #[.iface 73 (.agg #[.string series, .int .i64 limit])] 25)).alloc (.cells #[.string series, .int .i64 limit] 73)) := below_box (below_box (Below.refl _ _) _) _
  have HB0 := Lib.hid hb0
  have HW := Lib.hid (hW.below hb0)
  clear hW hb0 hm
  unfold Cm.cv
  go_enter Try.func32, Try.ntmps32
  go_wp2_with fail
  refine (wr_text p _ _ series _ HW.out h_series (by have := HM.out; omega)).mono ?_
  rintro e w1 ⟨rfl, hW1, hU1⟩
  have d1_1 : w1.cell? ⟨w.heap.size + 1, 1, none⟩ = some (.int .i64 limit) := by rw [hU1.cell _ _ (by simp) (by omega)]; simp [go_sem]
  have HLb1 : Hid ((wrT bs series).length ≤ bs.length + 74) := Lib.hid (by
    have q1 := wrT_len bs series
    omega)
  have HL1 : Hid ((wrT bs series).length ≤ 500000) := Lib.hid (by have := HLb1.out; have := HM.out; omega)
  have HW1 := Lib.hid hW1
  have HU1 := Lib.hid ((Upd.of p HB0.out).trans hU1)
  clear hW1 hU1
  go_wp2_with fail
  refine (wr_num p _ _ limit _ HW1.out h_limit (Nat.le_trans HL1.out (by omega))).mono ?_
  rintro e w2 ⟨rfl, hW2, hU2⟩
  clear d1_1
  have HLb2 : Hid (((wrT bs series) ++ nm limit).length ≤ bs.length + 84) := Lib.hid (by
    have q1 := nm_len limit
    rw [List.length_append]
    have := HLb1.out
    omega)
  have HL2 : Hid (((wrT bs series) ++ nm limit).length ≤ 500000) := Lib.hid (by have := HLb2.out; have := HM.out; omega)
  have HW2 := Lib.hid hW2
  have HU2 := Lib.hid (HU1.out.trans hU2)
  clear hW2 hU2
  go_wp2_with fail
  go_end0
  refine ⟨rfl, ⟨((wrT bs series) ++ nm limit), ?_, ?_, ?_⟩, HU2.out⟩
  · show WrE w2 p _ (l || (longT series))
    exact HW2.out
  · intro h
    have h' : (longT series) = false := h
    rw [wrT_ok h']
    show _ = bs ++ (tx series ++ (nm limit))
    simp only [List.append_assoc]
  · have := HLb2.out
    omega
set_option maxHeartbeats 4000000 in
theorem fields_2 (p : Nat) (bs : List UInt8) (l : Bool) (w : World) (hW : WrE w p bs l) (hm : bs.length ≤ 100000) (series : ByteArray) (h_series : series.size ≤ 140737488355328) :
    Calls Try.prog 32 #[.pointer (some ⟨p, 0, none⟩), Cm.cv (.iface 75 (.agg #[.string series]))] w (FieldsE p bs l (S.sht series) w) := by
  have hlt := hW.lt
  have HM := Lib.hid hm
  have a_open := ask_shut_open
  have a_shut := ask_shut_shut
  have hb0 : Below w.heap.size w ((w.alloc (.cells #[.iface 75 (.agg #[.string series])] 25)).alloc (.cells #[.string series] 75)) := below_box (below_box (Below.refl _ _) _) _
  have HB0 := Lib.hid hb0
  have HW := Lib.hid (hW.below hb0)
  clear hW hb0 hm
  unfold Cm.cv
  go_enter Try.func32, Try.ntmps32
  go_wp2_with fail
  refine (wr_text p _ _ series _ HW.out h_series (by have := HM.out; omega)).mono ?_
  rintro e w1 ⟨rfl, hW1, hU1⟩
  have HLb1 : Hid ((wrT bs series).length ≤ bs.length + 74) := Lib.hid (by
    have q1 := wrT_len bs series
    omega)
  have HL1 : Hid ((wrT bs series).length ≤ 500000) := Lib.hid (by have := HLb1.out; have := HM.out; omega)
  have HW1 := Lib.hid hW1
  have HU1 := Lib.hid ((Upd.of p HB0.out).trans hU1)
  clear hW1 hU1
  go_wp2_with fail
  go_end0
  refine ⟨rfl, ⟨(wrT bs series), ?_, ?_, ?_⟩, HU1.out⟩
  · show WrE w1 p _ (l || (longT series))
    exact HW1.out
  · intro h
    have h' : (longT series) = false := h
    rw [wrT_ok h']
    show _ = bs ++ (tx series)
    rfl
  · have := HLb1.out
    omega
set_option maxHeartbeats 4000000 in
theorem fields_3 (p : Nat) (bs : List UInt8) (l : Bool) (w : World) (hW : WrE w p bs l) (hm : bs.length ≤ 100000) (cat : ByteArray) (fy : Int) (fm : Int) (fd : Int) (bp : Int) (h_cat : cat.size ≤ 140737488355328) (h_fy : Fit fy) (h_fm : Fit fm) (h_fd : Fit fd) (h_bp : Fit bp) :
    Calls Try.prog 32 #[.pointer (some ⟨p, 0, none⟩), Cm.cv (.iface 77 (.agg #[.string cat, .int .i64 fy, .int .i64 fm, .int .i64 fd, .int .i64 bp]))] w (FieldsE p bs l (S.lvy cat fy fm fd bp) w) := by
  have hlt := hW.lt
  have HM := Lib.hid hm
  have a_open := ask_levy_open
  have a_shut := ask_levy_shut
  have a_levy := ask_levy_levy
  have hb0 : Below w.heap.size w ((w.alloc (.cells #[.iface 77 (.agg #[.string cat, .int .i64 fy, .int .i64 fm, .int .i64 fd, .int .i64 bp])] 25)).alloc (.cells #[.string cat, .int .i64 fy, .int .i64 fm, .int .i64 fd, .int .i64 bp] 77)) := below_box (below_box (Below.refl _ _) _) _
  have HB0 := Lib.hid hb0
  have HW := Lib.hid (hW.below hb0)
  clear hW hb0 hm
  unfold Cm.cv
  go_enter Try.func32, Try.ntmps32
  go_wp2_with fail
  refine (wr_text p _ _ cat _ HW.out h_cat (by have := HM.out; omega)).mono ?_
  rintro e w1 ⟨rfl, hW1, hU1⟩
  have d1_1 : w1.cell? ⟨w.heap.size + 1, 1, none⟩ = some (.int .i64 fy) := by rw [hU1.cell _ _ (by simp) (by omega)]; simp [go_sem]
  have d1_2 : w1.cell? ⟨w.heap.size + 1, 2, none⟩ = some (.int .i64 fm) := by rw [hU1.cell _ _ (by simp) (by omega)]; simp [go_sem]
  have d1_3 : w1.cell? ⟨w.heap.size + 1, 3, none⟩ = some (.int .i64 fd) := by rw [hU1.cell _ _ (by simp) (by omega)]; simp [go_sem]
  have d1_4 : w1.cell? ⟨w.heap.size + 1, 4, none⟩ = some (.int .i64 bp) := by rw [hU1.cell _ _ (by simp) (by omega)]; simp [go_sem]
  have HLb1 : Hid ((wrT bs cat).length ≤ bs.length + 74) := Lib.hid (by
    have q1 := wrT_len bs cat
    omega)
  have HL1 : Hid ((wrT bs cat).length ≤ 500000) := Lib.hid (by have := HLb1.out; have := HM.out; omega)
  have HW1 := Lib.hid hW1
  have HU1 := Lib.hid ((Upd.of p HB0.out).trans hU1)
  clear hW1 hU1
  go_wp2_with fail
  refine (wr_day p _ _ fy fm fd _ HW1.out h_fy h_fm h_fd (Nat.le_trans HL1.out (by omega))).mono ?_
  rintro e w2 ⟨rfl, hW2, hU2⟩
  have d2_4 : w2.cell? ⟨w.heap.size + 1, 4, none⟩ = some (.int .i64 bp) := by rw [hU2.cell _ _ (cell_lt d1_4) (by omega)]; exact d1_4
  clear d1_1 d1_2 d1_3 d1_4
  have HLb2 : Hid (((wrT bs cat) ++ dayB fy fm fd).length ≤ bs.length + 104) := Lib.hid (by
    have q1 := dayB_len fy fm fd
    rw [List.length_append]
    have := HLb1.out
    omega)
  have HL2 : Hid (((wrT bs cat) ++ dayB fy fm fd).length ≤ 500000) := Lib.hid (by have := HLb2.out; have := HM.out; omega)
  have HW2 := Lib.hid hW2
  have HU2 := Lib.hid (HU1.out.trans hU2)
  clear hW2 hU2
  go_wp2_with fail
  refine (wr_num p _ _ bp _ HW2.out h_bp (Nat.le_trans HL2.out (by omega))).mono ?_
  rintro e w3 ⟨rfl, hW3, hU3⟩
  clear d2_4
  have HLb3 : Hid ((((wrT bs cat) ++ dayB fy fm fd) ++ nm bp).length ≤ bs.length + 114) := Lib.hid (by
    have q1 := nm_len bp
    rw [List.length_append]
    have := HLb2.out
    omega)
  have HL3 : Hid ((((wrT bs cat) ++ dayB fy fm fd) ++ nm bp).length ≤ 500000) := Lib.hid (by have := HLb3.out; have := HM.out; omega)
  have HW3 := Lib.hid hW3
  have HU3 := Lib.hid (HU2.out.trans hU3)
  clear hW3 hU3
  go_wp2_with fail
  go_end0
  refine ⟨rfl, ⟨(((wrT bs cat) ++ dayB fy fm fd) ++ nm bp), ?_, ?_, ?_⟩, HU3.out⟩
  · show WrE w3 p _ (l || (longT cat))
    exact HW3.out
  · intro h
    have h' : (longT cat) = false := h
    rw [wrT_ok h']
    show _ = bs ++ (tx cat ++ (dayB fy fm fd ++ (nm bp)))
    simp only [List.append_assoc]
  · have := HLb3.out
    omega
set_option maxHeartbeats 4000000 in
theorem fields_4 (p : Nat) (bs : List UInt8) (l : Bool) (w : World) (hW : WrE w p bs l) (hm : bs.length ≤ 100000) (series : ByteArray) (y : Int) (m : Int) (d : Int) (ls : List Ln.T) (ao : Option Addr) (n cap : Nat) (h_series : series.size ≤ 140737488355328) (h_y : Fit y) (h_m : Fit m) (h_d : Fit d) (hL : Ln.Ls w ao n cap ls) (hap : 0 < n → ∀ b off, ao = some ⟨b, off, none⟩ → b ≠ p) :
    Calls Try.prog 32 #[.pointer (some ⟨p, 0, none⟩), Cm.cv (.iface 49 (.agg #[.string series, .int .i64 y, .int .i64 m, .int .i64 d, .slice ao n cap]))] w (FieldsE p bs l (S.pst series y m d ls) w) := by
  have hlt := hW.lt
  have HM := Lib.hid hm
  have a_open := ask_Post_open
  have a_shut := ask_Post_shut
  have a_levy := ask_Post_levy
  have a_Post := ask_Post_Post
  have hb0 : Below w.heap.size w ((w.alloc (.cells #[.iface 49 (.agg #[.string series, .int .i64 y, .int .i64 m, .int .i64 d, .slice ao n cap])] 25)).alloc (.cells #[.string series, .int .i64 y, .int .i64 m, .int .i64 d, .slice ao n cap] 49)) := below_box (below_box (Below.refl _ _) _) _
  have HB0 := Lib.hid hb0
  have HW := Lib.hid (hW.below hb0)
  have HL := Lib.hid (hL.below hb0)
  have HAp := Lib.hid hap
  clear hL hap
  clear hW hb0 hm
  unfold Cm.cv
  go_enter Try.func32, Try.ntmps32
  go_wp2_with fail
  refine (wr_text p _ _ series _ HW.out h_series (by have := HM.out; omega)).mono ?_
  rintro e w1 ⟨rfl, hW1, hU1⟩
  have d1_1 : w1.cell? ⟨w.heap.size + 1, 1, none⟩ = some (.int .i64 y) := by rw [hU1.cell _ _ (by simp) (by omega)]; simp [go_sem]
  have d1_2 : w1.cell? ⟨w.heap.size + 1, 2, none⟩ = some (.int .i64 m) := by rw [hU1.cell _ _ (by simp) (by omega)]; simp [go_sem]
  have d1_3 : w1.cell? ⟨w.heap.size + 1, 3, none⟩ = some (.int .i64 d) := by rw [hU1.cell _ _ (by simp) (by omega)]; simp [go_sem]
  have d1_4 : w1.cell? ⟨w.heap.size + 1, 4, none⟩ = some (.slice ao n cap) := by rw [hU1.cell _ _ (by simp) (by omega)]; simp [go_sem]
  have HLc1 := Lib.hid (HL.out.updN hU1 HAp.out)
  have HLb1 : Hid ((wrT bs series).length ≤ bs.length + 74) := Lib.hid (by
    have q1 := wrT_len bs series
    omega)
  have HL1 : Hid ((wrT bs series).length ≤ 500000) := Lib.hid (by have := HLb1.out; have := HM.out; omega)
  have HW1 := Lib.hid hW1
  have HU1 := Lib.hid ((Upd.of p HB0.out).trans hU1)
  clear hW1 hU1
  go_wp2_with fail
  refine (wr_day p _ _ y m d _ HW1.out h_y h_m h_d (Nat.le_trans HL1.out (by omega))).mono ?_
  rintro e w2 ⟨rfl, hW2, hU2⟩
  have d2_4 : w2.cell? ⟨w.heap.size + 1, 4, none⟩ = some (.slice ao n cap) := by rw [hU2.cell _ _ (cell_lt d1_4) (by omega)]; exact d1_4
  clear d1_1 d1_2 d1_3 d1_4
  have HLc2 := Lib.hid (HLc1.out.updN hU2 HAp.out)
  have HLb2 : Hid (((wrT bs series) ++ dayB y m d).length ≤ bs.length + 104) := Lib.hid (by
    have q1 := dayB_len y m d
    rw [List.length_append]
    have := HLb1.out
    omega)
  have HL2 : Hid (((wrT bs series) ++ dayB y m d).length ≤ 500000) := Lib.hid (by have := HLb2.out; have := HM.out; omega)
  have HW2 := Lib.hid hW2
  have HU2 := Lib.hid (HU1.out.trans hU2)
  clear hW2 hU2
  go_wp2_with fail
  refine (wr_lines p _ _ ao n cap ls _ HW2.out HLc2.out HAp.out (Nat.le_trans HL2.out (by omega))).mono ?_
  rintro e w3 ⟨rfl, ⟨bz, hWz, hz, hzl⟩, hU3⟩
  clear d2_4
  have HWz := Lib.hid hWz
  have HZ := Lib.hid hz
  have HZl := Lib.hid hzl
  have HU3 := Lib.hid (HU2.out.trans hU3)
  clear hWz hz hzl hU3
  go_wp2_with fail
  go_end0
  refine ⟨rfl, ⟨bz, ?_, ?_, ?_⟩, HU3.out⟩
  · show WrE w3 p bz (l || (longT series || longL ls))
    rw [← Bool.or_assoc]
    exact HWz.out
  · intro h
    have h' : (longT series || longL ls) = false := h
    rw [Bool.or_eq_false_iff] at h'
    rw [HZ.out h'.2, wrT_ok h'.1]
    show _ = bs ++ (tx series ++ (dayB y m d ++ (nm (ls.length : Int) ++ linesB ls)))
    simp only [List.append_assoc]
  · have := HZl.out
    have := HLb2.out
    omega
set_option maxHeartbeats 4000000 in
theorem fields_5 (p : Nat) (bs : List UInt8) (l : Bool) (w : World) (hW : WrE w p bs l) (hm : bs.length ≤ 100000) (series : ByteArray) (y : Int) (m : Int) (d : Int) (ofs : ByteArray) (ofn : Int) (h_series : series.size ≤ 140737488355328) (h_y : Fit y) (h_m : Fit m) (h_d : Fit d) (h_ofs : ofs.size ≤ 140737488355328) (h_ofn : Fit ofn) :
    Calls Try.prog 32 #[.pointer (some ⟨p, 0, none⟩), Cm.cv (.iface 80 (.agg #[.string series, .int .i64 y, .int .i64 m, .int .i64 d, .string ofs, .int .i64 ofn]))] w (FieldsE p bs l (S.crd series y m d ofs ofn) w) := by
  have hlt := hW.lt
  have HM := Lib.hid hm
  have a_open := ask_credit_open
  have a_shut := ask_credit_shut
  have a_levy := ask_credit_levy
  have a_Post := ask_credit_Post
  have a_credit := ask_credit_credit
  have hb0 : Below w.heap.size w ((w.alloc (.cells #[.iface 80 (.agg #[.string series, .int .i64 y, .int .i64 m, .int .i64 d, .string ofs, .int .i64 ofn])] 25)).alloc (.cells #[.string series, .int .i64 y, .int .i64 m, .int .i64 d, .string ofs, .int .i64 ofn] 80)) := below_box (below_box (Below.refl _ _) _) _
  have HB0 := Lib.hid hb0
  have HW := Lib.hid (hW.below hb0)
  clear hW hb0 hm
  unfold Cm.cv
  go_enter Try.func32, Try.ntmps32
  go_wp2_with fail
  refine (wr_text p _ _ series _ HW.out h_series (by have := HM.out; omega)).mono ?_
  rintro e w1 ⟨rfl, hW1, hU1⟩
  have d1_1 : w1.cell? ⟨w.heap.size + 1, 1, none⟩ = some (.int .i64 y) := by rw [hU1.cell _ _ (by simp) (by omega)]; simp [go_sem]
  have d1_2 : w1.cell? ⟨w.heap.size + 1, 2, none⟩ = some (.int .i64 m) := by rw [hU1.cell _ _ (by simp) (by omega)]; simp [go_sem]
  have d1_3 : w1.cell? ⟨w.heap.size + 1, 3, none⟩ = some (.int .i64 d) := by rw [hU1.cell _ _ (by simp) (by omega)]; simp [go_sem]
  have d1_4 : w1.cell? ⟨w.heap.size + 1, 4, none⟩ = some (.string ofs) := by rw [hU1.cell _ _ (by simp) (by omega)]; simp [go_sem]
  have d1_5 : w1.cell? ⟨w.heap.size + 1, 5, none⟩ = some (.int .i64 ofn) := by rw [hU1.cell _ _ (by simp) (by omega)]; simp [go_sem]
  have HLb1 : Hid ((wrT bs series).length ≤ bs.length + 74) := Lib.hid (by
    have q1 := wrT_len bs series
    omega)
  have HL1 : Hid ((wrT bs series).length ≤ 500000) := Lib.hid (by have := HLb1.out; have := HM.out; omega)
  have HW1 := Lib.hid hW1
  have HU1 := Lib.hid ((Upd.of p HB0.out).trans hU1)
  clear hW1 hU1
  go_wp2_with fail
  refine (wr_day p _ _ y m d _ HW1.out h_y h_m h_d (Nat.le_trans HL1.out (by omega))).mono ?_
  rintro e w2 ⟨rfl, hW2, hU2⟩
  have d2_4 : w2.cell? ⟨w.heap.size + 1, 4, none⟩ = some (.string ofs) := by rw [hU2.cell _ _ (cell_lt d1_4) (by omega)]; exact d1_4
  have d2_5 : w2.cell? ⟨w.heap.size + 1, 5, none⟩ = some (.int .i64 ofn) := by rw [hU2.cell _ _ (cell_lt d1_5) (by omega)]; exact d1_5
  clear d1_1 d1_2 d1_3 d1_4 d1_5
  have HLb2 : Hid (((wrT bs series) ++ dayB y m d).length ≤ bs.length + 104) := Lib.hid (by
    have q1 := dayB_len y m d
    rw [List.length_append]
    have := HLb1.out
    omega)
  have HL2 : Hid (((wrT bs series) ++ dayB y m d).length ≤ 500000) := Lib.hid (by have := HLb2.out; have := HM.out; omega)
  have HW2 := Lib.hid hW2
  have HU2 := Lib.hid (HU1.out.trans hU2)
  clear hW2 hU2
  go_wp2_with fail
  refine (wr_text p _ _ ofs _ HW2.out h_ofs (Nat.le_trans HL2.out (by omega))).mono ?_
  rintro e w3 ⟨rfl, hW3, hU3⟩
  have d3_5 : w3.cell? ⟨w.heap.size + 1, 5, none⟩ = some (.int .i64 ofn) := by rw [hU3.cell _ _ (cell_lt d2_5) (by omega)]; exact d2_5
  clear d2_4 d2_5
  have HLb3 : Hid ((wrT ((wrT bs series) ++ dayB y m d) ofs).length ≤ bs.length + 178) := Lib.hid (by
    have q1 := wrT_len ((wrT bs series) ++ dayB y m d) ofs
    have := HLb2.out
    omega)
  have HL3 : Hid ((wrT ((wrT bs series) ++ dayB y m d) ofs).length ≤ 500000) := Lib.hid (by have := HLb3.out; have := HM.out; omega)
  have HW3 := Lib.hid hW3
  have HU3 := Lib.hid (HU2.out.trans hU3)
  clear hW3 hU3
  go_wp2_with fail
  refine (wr_num p _ _ ofn _ HW3.out h_ofn (Nat.le_trans HL3.out (by omega))).mono ?_
  rintro e w4 ⟨rfl, hW4, hU4⟩
  clear d3_5
  have HLb4 : Hid (((wrT ((wrT bs series) ++ dayB y m d) ofs) ++ nm ofn).length ≤ bs.length + 188) := Lib.hid (by
    have q1 := nm_len ofn
    rw [List.length_append]
    have := HLb3.out
    omega)
  have HL4 : Hid (((wrT ((wrT bs series) ++ dayB y m d) ofs) ++ nm ofn).length ≤ 500000) := Lib.hid (by have := HLb4.out; have := HM.out; omega)
  have HW4 := Lib.hid hW4
  have HU4 := Lib.hid (HU3.out.trans hU4)
  clear hW4 hU4
  go_wp2_with fail
  go_end0
  refine ⟨rfl, ⟨((wrT ((wrT bs series) ++ dayB y m d) ofs) ++ nm ofn), ?_, ?_, ?_⟩, HU4.out⟩
  · show WrE w4 p _ (l || (longT series || longT ofs))
    rw [← Bool.or_assoc]
    exact HW4.out
  · intro h
    have h' : (longT series || longT ofs) = false := h
    rw [Bool.or_eq_false_iff] at h'
    rw [wrT_ok h'.1, wrT_ok h'.2]
    show _ = bs ++ (tx series ++ (dayB y m d ++ (tx ofs ++ (nm ofn))))
    simp only [List.append_assoc]
  · have := HLb4.out
    omega
set_option maxHeartbeats 4000000 in
theorem fields_6 (p : Nat) (bs : List UInt8) (l : Bool) (w : World) (hW : WrE w p bs l) (hm : bs.length ≤ 100000) :
    Calls Try.prog 32 #[.pointer (some ⟨p, 0, none⟩), Cm.cv (.iface 82 (.agg #[]))] w (FieldsE p bs l (S.jn) w) := by
  have hlt := hW.lt
  have HM := Lib.hid hm
  have a_open := ask_join_open
  have a_shut := ask_join_shut
  have a_levy := ask_join_levy
  have a_Post := ask_join_Post
  have a_credit := ask_join_credit
  have a_leave := ask_join_leave
  have a_ask := ask_join_ask
  have hb0 : Below w.heap.size w (w.alloc (.cells #[.iface 82 (.agg #[])] 25)) := below_box (Below.refl _ _) _
  have HB0 := Lib.hid hb0
  have HW := Lib.hid (hW.below hb0)
  clear hW hb0 hm
  unfold Cm.cv
  go_enter Try.func32, Try.ntmps32
  go_wp2_with fail
  go_end0
  exact ⟨rfl, ⟨bs, by simpa [S.long, S.jn] using HW.out, fun _ => by simp [S.fields, S.jn], by omega⟩, Upd.of p HB0.out⟩
set_option maxHeartbeats 4000000 in
theorem fields_7 (p : Nat) (bs : List UInt8) (l : Bool) (w : World) (hW : WrE w p bs l) (hm : bs.length ≤ 100000) (session : Int) (h_session : Fit session) :
    Calls Try.prog 32 #[.pointer (some ⟨p, 0, none⟩), Cm.cv (.iface 84 (.agg #[.int .i64 session]))] w (FieldsE p bs l (S.lv session) w) := by
  have hlt := hW.lt
  have HM := Lib.hid hm
  have a_open := ask_leave_open
  have a_shut := ask_leave_shut
  have a_levy := ask_leave_levy
  have a_Post := ask_leave_Post
  have a_credit := ask_leave_credit
  have a_leave := ask_leave_leave
  have hb0 : Below w.heap.size w ((w.alloc (.cells #[.iface 84 (.agg #[.int .i64 session])] 25)).alloc (.cells #[.int .i64 session] 84)) := below_box (below_box (Below.refl _ _) _) _
  have HB0 := Lib.hid hb0
  have HW := Lib.hid (hW.below hb0)
  clear hW hb0 hm
  unfold Cm.cv
  go_enter Try.func32, Try.ntmps32
  go_wp2_with fail
  refine (wr_num p _ _ session _ HW.out h_session (by have := HM.out; omega)).mono ?_
  rintro e w1 ⟨rfl, hW1, hU1⟩
  have HLb1 : Hid ((bs ++ nm session).length ≤ bs.length + 10) := Lib.hid (by
    have q1 := nm_len session
    rw [List.length_append]
    omega)
  have HL1 : Hid ((bs ++ nm session).length ≤ 500000) := Lib.hid (by have := HLb1.out; have := HM.out; omega)
  have HW1 := Lib.hid hW1
  have HU1 := Lib.hid ((Upd.of p HB0.out).trans hU1)
  clear hW1 hU1
  go_wp2_with fail
  go_end0
  refine ⟨rfl, ⟨(bs ++ nm session), ?_, ?_, ?_⟩, HU1.out⟩
  · have h := HW1.out
    simpa [S.long, S.lv] using h
  · intro h
    show _ = bs ++ (nm session)
    rfl
  · have := HLb1.out
    omega
set_option maxHeartbeats 4000000 in
theorem fields_8 (p : Nat) (bs : List UInt8) (l : Bool) (w : World) (hW : WrE w p bs l) (hm : bs.length ≤ 100000) (series : ByteArray) (h_series : series.size ≤ 140737488355328) :
    Calls Try.prog 32 #[.pointer (some ⟨p, 0, none⟩), Cm.cv (.iface 85 (.agg #[.string series]))] w (FieldsE p bs l (S.sk series) w) := by
  have hlt := hW.lt
  have HM := Lib.hid hm
  have a_open := ask_ask_open
  have a_shut := ask_ask_shut
  have a_levy := ask_ask_levy
  have a_Post := ask_ask_Post
  have a_credit := ask_ask_credit
  have a_leave := ask_ask_leave
  have a_ask := ask_ask_ask
  have hb0 : Below w.heap.size w ((w.alloc (.cells #[.iface 85 (.agg #[.string series])] 25)).alloc (.cells #[.string series] 85)) := below_box (below_box (Below.refl _ _) _) _
  have HB0 := Lib.hid hb0
  have HW := Lib.hid (hW.below hb0)
  clear hW hb0 hm
  unfold Cm.cv
  go_enter Try.func32, Try.ntmps32
  go_wp2_with fail
  refine (wr_text p _ _ series _ HW.out h_series (by have := HM.out; omega)).mono ?_
  rintro e w1 ⟨rfl, hW1, hU1⟩
  have HLb1 : Hid ((wrT bs series).length ≤ bs.length + 74) := Lib.hid (by
    have q1 := wrT_len bs series
    omega)
  have HL1 : Hid ((wrT bs series).length ≤ 500000) := Lib.hid (by have := HLb1.out; have := HM.out; omega)
  have HW1 := Lib.hid hW1
  have HU1 := Lib.hid ((Upd.of p HB0.out).trans hU1)
  clear hW1 hU1
  go_wp2_with fail
  go_end0
  refine ⟨rfl, ⟨(wrT bs series), ?_, ?_, ?_⟩, HU1.out⟩
  · show WrE w1 p _ (l || (longT series))
    exact HW1.out
  · intro h
    have h' : (longT series) = false := h
    rw [wrT_ok h']
    show _ = bs ++ (tx series)
    rfl
  · have := HLb1.out
    omega
end Go.Proofs.Ytndfhnaafaijcaa

/- CONTRACTS OF PACKAGE command: Put. -/
set_option linter.unusedVariables false
namespace Go.Proofs.Ytndfhnaafaijcaa
open Go.RowKit
open Mem Pk Cm

theorem Cm.Is.iface {w : World} {s : S} {v : Value} (h : Cm.Is w s v) (hk : s.kind ≠ 0) : ∃ t x, v = .iface t x := by
  cases h with
  | none => exact absurd rfl hk
  | _ => exact ⟨_, _, rfl⟩
theorem fields_any (p : Nat) (bs : List UInt8) (l : Bool) (w0 w : World) (hW : WrE w p bs l) (hm : bs.length ≤ 100000) (s : S) (v : Value) (h : Cm.Is w0 s v) (hk : s.kind ≠ 0) (hb : Below w0.heap.size w0 w) (hp : w0.heap.size ≤ p) :
    Calls Try.prog 32 #[.pointer (some ⟨p, 0, none⟩), Cm.cv v] w (FieldsE p bs l s w) := by
  cases h with
  | none => exact absurd rfl hk
  | opn series limit h1 h2 => exact fields_1 p bs l w hW hm series limit h1 h2
  | sht series h1 => exact fields_2 p bs l w hW hm series h1
  | lvy cat fy fm fd bp h1 h2 h3 h4 h5 => exact fields_3 p bs l w hW hm cat fy fm fd bp h1 h2 h3 h4 h5
  | pst series y m d ls ao n cap h1 h2 h3 h4 hn hL =>
    refine fields_4 p bs l w hW hm series y m d ls ao n cap h1 h2 h3 h4 (hL.below hb) (fun h0 b off e => ?_)
    subst e
    have := cell_lt (hL.row 0 (by rw [← hL.len]; exact h0)).c0
    omega
  | crd series y m d ofs ofn h1 h2 h3 h4 h5 h6 => exact fields_5 p bs l w hW hm series y m d ofs ofn h1 h2 h3 h4 h5 h6
  | jn => exact fields_6 p bs l w hW hm
  | lv session h1 => exact fields_7 p bs l w hW hm session h1
  | sk series h1 => exact fields_8 p bs l w hW hm series h1
theorem putE_no {s : S} (h : s.kind = 0) : s.putE = 17 := by unfold S.putE; rw [if_pos (by omega)]
theorem putE_long {s : S} (h : 1 ≤ s.kind ∧ s.kind ≤ 8) (hl : s.long = true ∨ 1024 < s.bytes.length) : s.putE = 2 := by unfold S.putE; rw [if_neg (by omega), if_pos hl]
theorem putE_ok {s : S} (h : 1 ≤ s.kind ∧ s.kind ≤ 8) (hl : ¬ (s.long = true ∨ 1024 < s.bytes.length)) : s.putE = 0 := by unfold S.putE; rw [if_neg (by omega), if_neg hl]
theorem putB_no {s : S} (h : s.putE ≠ 0) : s.putB = [] := if_neg h
theorem putB_ok {s : S} (h : s.putE = 0) : s.putB = s.bytes := if_pos h
theorem put_boxes (w : World) (v : Value) : WrE (((w.alloc (.cells #[v] 25)).alloc (.cells #[.slice none 0 0, .bool false] 88)).alloc (.cells #[v] 25)) (w.heap.size + 1) [] false :=
  ⟨none, 0, 0, by simp [go_sem], by simp [go_sem], fun o => by simp [go_sem], By.ls_nil _, fun b off e => by cases e⟩
set_option maxHeartbeats 4000000 in
theorem put_any (s : S) (v : Value) (w : World) (h : Cm.Is w s v) :
    Calls Try.prog 10 #[Cm.cv v] w fun e w' => (∃ ao n cap, e = .returned (.tuple #[.slice ao n cap, .int .i64 s.putE]) ∧ By.Ls w' ao n cap s.putB) ∧ Below w.heap.size w w' := by
  by_cases hk : s.kind = 0
  · rcases h.good with ⟨rfl, rfl⟩ | hg
    · have HE : Hid (S.zero.putE = 17 ∧ S.zero.putB = []) := Lib.hid ⟨putE_no rfl, putB_no (by rw [putE_no rfl]; omega)⟩
      unfold Cm.cv
      go_enter Try.func10, Try.ntmps10
      go_wp2_with fail
      go_ret2
      rw [HE.out.1, HE.out.2]
      exact ⟨⟨none, 0, 0, rfl, By.ls_nil _⟩, below_box (Below.refl _ _) _⟩
    · have := hg.lo
      omega
  · have hg := h.kind_pos hk
    obtain ⟨t, x, hv⟩ := h.iface hk
    have HI := Lib.hid h
    have HG := Lib.hid hg
    have HK := Lib.hid hk
    have hb0 : Below w.heap.size w (((w.alloc (.cells #[v] 25)).alloc (.cells #[.slice none 0 0, .bool false] 88)).alloc (.cells #[v] 25)) := below_box (below_box (below_box (Below.refl _ _) _) _) _
    have HB0 := Lib.hid hb0
    have HW0 := Lib.hid (put_boxes w v)
    rw [hv] at HB0 HW0
    clear h hg hb0
    unfold Cm.cv
    rw [hv]
    rw [hv] at HI
    go_enter Try.func10, Try.ntmps10
    go_wp2_with fail
    refine (cmd_kind s _ _ (HI.out.below (below_box (below_box (Below.refl _ _) _) _))).mono ?_
    rintro e w1 ⟨rfl, rfl⟩
    go_wp2_with fail
    refine (wr_num (w.heap.size + 1) [] false s.kind _ HW0.out (fit_kind HG.out.lo HG.out.hi) (by simp)).mono ?_
    rintro e w1 ⟨rfl, hW1, hU1⟩
    have hb1 := hU1.below w HB0.out (Nat.le_succ _)
    have d0 : w1.cell? ⟨w.heap.size, 0, none⟩ = some (.iface t x) := by rw [hU1.cell _ _ (by simp; omega) (by omega)]; simp [go_sem]
    have HW1 := Lib.hid hW1
    have HB1 := Lib.hid hb1
    have hl1 := nm_len s.kind
    clear hW1 hb1 hU1
    go_wp2_with fail
    refine (fields_any (w.heap.size + 1) ([] ++ nm s.kind) false w w1 HW1.out (by rw [List.nil_append]; omega) s _ HI.out HK.out HB1.out (Nat.le_succ _)).mono ?_
    rintro e w2 ⟨rfl, ⟨bz, ⟨ao, n, cap, hWz⟩, hz, hzl⟩, hU2⟩
    have HB2 := Lib.hid (hU2.below w HB1.out (Nat.le_succ _))
    have HWz := Lib.hid hWz
    have HZ := Lib.hid hz
    have c0 := hWz.c0
    have c1 := hWz.c1
    have hcap := hWz.ls.reach
    have hfit := hWz.ls.fits
    have HLen := Lib.hid hWz.ls.len
    rw [Bool.false_or] at c1
    clear hWz hz hU2 d0 hl1
    cases hlong : s.long
    · rw [hlong] at c1
      have HBy : Hid (bz = s.bytes) := Lib.hid (by rw [HZ.out hlong]; rfl)
      by_cases h1024 : 1024 < n
      · have HE : Hid (s.putE = 2 ∧ s.putB = []) := Lib.hid (by
          have e := putE_long (s := s) ⟨HG.out.lo, HG.out.hi⟩ (.inr (by rw [← HBy.out, ← HLen.out]; exact h1024))
          exact ⟨e, putB_no (by rw [e]; omega)⟩)
        have a1 : (1024 : Int) < (n : Int) := by omega
        go_wp2_with fail
        go_ret2
        rw [HE.out.1, HE.out.2]
        exact ⟨⟨none, 0, 0, rfl, By.ls_nil _⟩, HB2.out⟩
      · have HE : Hid (s.putE = 0 ∧ s.putB = s.bytes) := Lib.hid (by
          have e := putE_ok (s := s) ⟨HG.out.lo, HG.out.hi⟩ (by
            rw [← HBy.out, ← HLen.out, hlong]
            rintro (h | h)
            · cases h
            · omega)
          exact ⟨e, putB_ok e⟩)
        have a1 : ¬ (1024 : Int) < (n : Int) := by omega
        go_wp2_with fail
        go_ret2
        rw [HE.out.1, HE.out.2, ← HBy.out]
        exact ⟨⟨ao, n, cap, rfl, HWz.out.ls⟩, HB2.out⟩
    · rw [hlong] at c1
      have HE : Hid (s.putE = 2 ∧ s.putB = []) := Lib.hid (by
        have e := putE_long (s := s) ⟨HG.out.lo, HG.out.hi⟩ (.inl hlong)
        exact ⟨e, putB_no (by rw [e]; omega)⟩)
      go_wp2_with fail
      go_ret2
      rw [HE.out.1, HE.out.2]
      exact ⟨⟨none, 0, 0, rfl, By.ls_nil _⟩, HB2.out⟩
end Go.Proofs.Ytndfhnaafaijcaa
