/- THE DOCUMENT's OWN ANSWER: impostref8.Put. (By genrput.py.) -/
import Derived.Test.YtndfhnaafaijcaaRfP0
import Derived.Test.YtndfhnaafaijcaaMGf
set_option linter.unusedVariables false
set_option maxRecDepth 100000
namespace Go.Proofs.Ytndfhnaafaijcaa
open Go.RowKit
open Mem Pk Cm
set_option maxHeartbeats 8000000 in
theorem rput_4 (c : Cm.T) (ls : List Ln.T) (w : World) (hI : Cm.In w c ls) (hk : c.kind = 4) :
    Calls Try.prog 23 #[Cm.val c] w (RPutE (c.sem ls) w) := by
  have HKs : Hid (1 ≤ (c.sem ls).kind ∧ (c.sem ls).kind ≤ 8) := Lib.hid (by show 1 ≤ c.kind ∧ c.kind ≤ 8; omega)
  have HI := Lib.hid hI
  obtain ⟨X0, hX0, b0, hB0⟩ := Cm.boxV w c
  have q0 : X0.cell? ⟨w.heap.size, 0, none⟩ = some (.int .i64 4) := by rw [← hk]; exact hB0.cell 0
  have HB0 := Lib.hid b0
  have hlt := hB0.lt
  have HBl := Lib.hid hB0
  rw [hk] at hX0
  clear hI b0 hB0
  unfold Cm.val
  go_enter Try.func23, Try.ntmps23
  go_wp2_with fail
  clear hX0
  refine (rnum [] 4 ⟨by omega, by omega⟩ none 0 0 X0 (By.ls_nil _) (by omega)).mono ?_
  rintro e w1 ⟨⟨a1, N1, c1, rfl, hl1, hN1⟩, b1⟩
  rw [List.nil_append] at hl1
  replace q0 := keepD b1 q0
  have HB1 := Lib.hid (bchain HB0.out b1)
  have hlt1 := cell_lt q0
  have hB1 := HBl.out.below b1
  have y1 : w1.cell? ⟨w.heap.size, 1, none⟩ = some (.string c.series) := hB1.cell 1
  have y8 : w1.cell? ⟨w.heap.size, 8, none⟩ = some (.int .i64 c.y) := hB1.cell 8
  have y9 : w1.cell? ⟨w.heap.size, 9, none⟩ = some (.int .i64 c.m) := hB1.cell 9
  have y10 : w1.cell? ⟨w.heap.size, 10, none⟩ = some (.int .i64 c.d) := hB1.cell 10
  have y11 : w1.cell? ⟨w.heap.size, 11, none⟩ = some (.slice c.ao c.n c.cap) := hB1.cell 11
  clear b1 hB1
  have f_y : Fit c.y := HI.out.f_y
  have f_m : Fit c.m := HI.out.f_m
  have f_d : Fit c.d := HI.out.f_d
  have hcap1 := hl1.reach
  have hfit1 := hl1.fits
  have hcapL := HI.out.lines.reach
  have hfitL := HI.out.lines.fits
  have HLenL := Lib.hid HI.out.lines.len
  obtain ⟨X, hX⟩ : ∃ X, w1.alloc (.cells #[.string c.series] 9) = X := ⟨_, rfl⟩
  have hbX : Below w1.heap.size w1 X := hX ▸ below_box (Below.refl _ _) _
  have HSt := Lib.hid (strs1 w1 c.series)
  rw [hX] at HSt
  have HBX := Lib.hid (bchain HB1.out hbX)
  have HLX := Lib.hid (hl1.below hbX)
  have x1 := keepD hbX y1
  have x8 := keepD hbX y8
  have x9 := keepD hbX y9
  have x10 := keepD hbX y10
  have x11 := keepD hbX y11
  clear hbX hl1
  go_wp2_with fail
  clear hX q0 y1 y8 y9 y10 y11
  refine (rshort [c.series] w1.heap.size 1 X rfl (by omega) HSt.out).mono ?_
  rintro e w2 ⟨rfl, rfl⟩
  rename World => X
  have hlong : (c.sem ls).long = (longT c.series || longL ls) := by simp only [S.long, Cm.T.sem, hk, reduceIte, Int.reduceEq]
  cases hL : longT c.series
  · rw [hL, Bool.false_or] at hlong
    have hall : ([c.series].all fun s => !longT s) = true := by simp [hL]
    have s_series : c.series.size ≤ 64 := longT_no hL
    rw [hall]
    clear hall hL HSt
    by_cases h12 : 12 < c.n
    · have z12 : (12 : Int) < (c.n : Int) := by omega
      have HLg : Hid ((c.sem ls).long = true) := Lib.hid (by
        rw [hlong]
        unfold longL
        rw [← HLenL.out, decide_eq_true h12]
        rfl)
      clear hlong
      go_wp2_with fail
      go_ret2
      exact rput_long HKs.out (.inl HLg.out) HBX.out
    · have z12 : ¬ (12 : Int) < (c.n : Int) := by omega
      have HLg : Hid ((c.sem ls).long = ls.any longX) := Lib.hid (by
        rw [hlong]
        unfold longL
        rw [← HLenL.out, decide_eq_false h12]
        rfl)
      clear hlong
      have hl0 : By.Ls X.drew a1 N1 c1 (nm 4) := HLX.out.below (Below.refl _ _).drew
      have hq0 : Below X.heap.size X X.drew := (Below.refl _ _).drew
      have hltX := cell_lt x1
      have f_n : Fit (c.n : Int) := ⟨by omega, by omega⟩
      go_wp2_with fail
      go_region_held3 (fun u => u.cell? ⟨w.heap.size, 1, none⟩ = some (.string c.series) ∧ u.cell? ⟨w.heap.size, 8, none⟩ = some (.int .i64 c.y) ∧ u.cell? ⟨w.heap.size, 9, none⟩ = some (.int .i64 c.m) ∧ u.cell? ⟨w.heap.size, 10, none⟩ = some (.int .i64 c.d) ∧ u.cell? ⟨w.heap.size, 11, none⟩ = some (.slice c.ao c.n c.cap)) (first | assumption | exact ⟨x1, x8, x9, x10, x11⟩) (first | (go_at_call 39; refine (rnum _ _ (by assumption) _ _ _ _ (by assumption) (by omega)).mono ?_; rintro e u ⟨⟨a', N, c', rfl, hl, hN⟩, b⟩; have hq : Below X.heap.size X u := bchain (by assumption) b; have hS : u.cell? ⟨w.heap.size, 1, none⟩ = some (.string c.series) ∧ u.cell? ⟨w.heap.size, 8, none⟩ = some (.int .i64 c.y) ∧ u.cell? ⟨w.heap.size, 9, none⟩ = some (.int .i64 c.m) ∧ u.cell? ⟨w.heap.size, 10, none⟩ = some (.int .i64 c.d) ∧ u.cell? ⟨w.heap.size, 11, none⟩ = some (.slice c.ao c.n c.cap) := ⟨((bcell hq).1 _ _ hltX).trans x1, ((bcell hq).1 _ _ hltX).trans x8, ((bcell hq).1 _ _ hltX).trans x9, ((bcell hq).1 _ _ hltX).trans x10, ((bcell hq).1 _ _ hltX).trans x11⟩; clear b) | (go_at_call 41; refine (rtext _ _ (by assumption) _ _ _ _ (by assumption) (by omega)).mono ?_; rintro e u ⟨⟨a', N, c', rfl, hl, hN⟩, b⟩; have hq : Below X.heap.size X u := bchain (by assumption) b; have hS : u.cell? ⟨w.heap.size, 1, none⟩ = some (.string c.series) ∧ u.cell? ⟨w.heap.size, 8, none⟩ = some (.int .i64 c.y) ∧ u.cell? ⟨w.heap.size, 9, none⟩ = some (.int .i64 c.m) ∧ u.cell? ⟨w.heap.size, 10, none⟩ = some (.int .i64 c.d) ∧ u.cell? ⟨w.heap.size, 11, none⟩ = some (.slice c.ao c.n c.cap) := ⟨((bcell hq).1 _ _ hltX).trans x1, ((bcell hq).1 _ _ hltX).trans x8, ((bcell hq).1 _ _ hltX).trans x9, ((bcell hq).1 _ _ hltX).trans x10, ((bcell hq).1 _ _ hltX).trans x11⟩; clear b) | (go_at_call 42; refine (rday _ _ _ _ (by assumption) (by assumption) (by assumption) _ _ _ _ (by assumption) (by omega)).mono ?_; rintro e u ⟨⟨a', N, c', rfl, hl, hN⟩, b⟩; have hq : Below X.heap.size X u := bchain (by assumption) b; have hS : u.cell? ⟨w.heap.size, 1, none⟩ = some (.string c.series) ∧ u.cell? ⟨w.heap.size, 8, none⟩ = some (.int .i64 c.y) ∧ u.cell? ⟨w.heap.size, 9, none⟩ = some (.int .i64 c.m) ∧ u.cell? ⟨w.heap.size, 10, none⟩ = some (.int .i64 c.d) ∧ u.cell? ⟨w.heap.size, 11, none⟩ = some (.slice c.ao c.n c.cap) := ⟨((bcell hq).1 _ _ hltX).trans x1, ((bcell hq).1 _ _ hltX).trans x8, ((bcell hq).1 _ _ hltX).trans x9, ((bcell hq).1 _ _ hltX).trans x10, ((bcell hq).1 _ _ hltX).trans x11⟩; clear b) | fail)
      have HLN := Lib.hid hl
      have HQ := Lib.hid (bchain HBX.out hq)
      have q11 := hS.2.2.2.2
      have HLl := Lib.hid (HI.out.lines.below HQ.out)
      have hltu := cell_lt q11
      have hNb : N ≤ 124 := by omega
      obtain ⟨pre, hpre⟩ : ∃ pre, nm 4 ++ tx c.series ++ dayB c.y c.m c.d ++ nm (c.n : Int) = pre := ⟨_, rfl⟩
      rw [hpre] at HLN
      have HPre := Lib.hid hpre
      clear hpre hl hq hS x1 x8 x9 x10 x11
      go_wp2_with fail
      go_loopw [4, 5, 6] (fun bv i _ wr => ∃ (k M : Nat) (a : Option Addr) (d : Nat), k ≤ c.n ∧ bv = .slice a M d ∧ i = .int .i64 k ∧ M ≤ 124 + 168 * k ∧ Hid (By.Ls wr a M d (pre ++ linesB (ls.take k))) ∧ Hid ((ls.take k).any longX = false) ∧ Hid (Below u.heap.size u wr)) (fun _ i _ _ => c.n - (intOf i).toNat)
      case atStart => exact ⟨0, N, a', c', by omega, rfl, rfl, by omega, Lib.hid (by simpa [linesB] using HLN.out), Lib.hid rfl, Lib.hid (Below.refl _ _)⟩
      case round =>
        obtain ⟨k, M, a, d, hkn, rfl, rfl, hM, HLk, HAk, HBk⟩ := hrel
        have p11 := keepD HBk.out q11
        have hcapM := HLk.out.reach
        have hfitM := HLk.out.fits
        by_cases hlt2 : k < c.n
        · have hLw := HLl.out.below HBk.out
          obtain ⟨b, off, hao⟩ := hLw.at (by omega)
          have hkr : k < ls.length := HLenL.out ▸ hlt2
          obtain ⟨r, hr⟩ : ∃ r, ls[k] = r := ⟨_, rfl⟩
          rw [hao] at hLw p11
          have hrow := hLw.row k hkr
          have HSh : Hid (Ln.Short r) := Lib.hid (hLw.short r (hr ▸ List.getElem_mem hkr))
          have HAny := Lib.hid (any_next ls k hkr)
          have HLin := Lib.hid (linesB_next ls k hkr)
          rw [hr] at hrow HAny HLin
          have HHr : Hid (r ∈ ls) := Lib.hid (hr ▸ List.getElem_mem hkr)
          clear hr hLw hao
          obtain ⟨g0, g1, g2, g3⟩ := hrow
          obtain ⟨W, hW, hbW, hA⟩ := Ln.boxed1 wr r
          obtain ⟨Y, hY⟩ : ∃ Y, W.alloc (.cells #[.string r.text, .string r.category] 9) = Y := ⟨_, rfl⟩
          have hbY : Below W.heap.size W Y := hY ▸ below_box (Below.refl _ _) _
          have HSt := Lib.hid (strs2 W r.text r.category)
          rw [hY] at HSt
          have HBY := Lib.hid (bchain (bchain HBk.out hbW) hbY)
          have HLY := Lib.hid ((HLk.out.below hbW).below hbY)
          have hAY := hA.below hbY
          unfold Ln.C at hA hAY
          obtain ⟨a0, a1, a2, a3⟩ := hA
          obtain ⟨b0, b1, b2, b3⟩ := hAY
          clear hbW hbY
          go_wp2_with fail
          clear hW hY a0 a1 a2 a3 g0 g1 g2 g3
          refine (rshort [r.text, r.category] W.heap.size 2 Y rfl (by omega) HSt.out).mono ?_
          rintro e w2 ⟨rfl, rfl⟩
          rename World => Y
          cases hLr : longX r
          · have hLr' := hLr
            unfold longX at hLr'
            rw [Bool.or_eq_false_iff] at hLr'
            have hall : ([r.text, r.category].all fun s => !longT s) = true := by simp [hLr'.1, hLr'.2]
            have s_text : r.text.size ≤ 64 := longT_no hLr'.1
            have s_cat : r.category.size ≤ 64 := longT_no hLr'.2
            have f_count : Fit r.count := HSh.out.2.2.1
            have f_price : Fit r.price := HSh.out.2.2.2
            rw [hall]
            have HLr := Lib.hid hLr
            have hlk0 : By.Ls Y.drew a M d (pre ++ linesB (ls.take k)) := HLY.out.below (Below.refl _ _).drew
            have hqk0 : Below Y.heap.size Y Y.drew := (Below.refl _ _).drew
            have hltY := cell_lt b0
            clear hall hLr hLr' HSt
            go_wp2_with fail
            go_region_held3 (fun v => v.cell? ⟨wr.heap.size, 0, none⟩ = some (.string r.text) ∧ v.cell? ⟨wr.heap.size, 1, none⟩ = some (.string r.category) ∧ v.cell? ⟨wr.heap.size, 2, none⟩ = some (.int .i64 r.count) ∧ v.cell? ⟨wr.heap.size, 3, none⟩ = some (.int .i64 r.price)) (first | assumption | exact ⟨b0, b1, b2, b3⟩) (first | (go_at_call 39; refine (rnum _ _ (by assumption) _ _ _ _ (by assumption) (by omega)).mono ?_; rintro e v ⟨⟨a', N, c', rfl, hl, hN⟩, b⟩; have hq : Below Y.heap.size Y v := bchain (by assumption) b; have hS : v.cell? ⟨wr.heap.size, 0, none⟩ = some (.string r.text) ∧ v.cell? ⟨wr.heap.size, 1, none⟩ = some (.string r.category) ∧ v.cell? ⟨wr.heap.size, 2, none⟩ = some (.int .i64 r.count) ∧ v.cell? ⟨wr.heap.size, 3, none⟩ = some (.int .i64 r.price) := ⟨((bcell hq).1 _ _ hltY).trans b0, ((bcell hq).1 _ _ hltY).trans b1, ((bcell hq).1 _ _ hltY).trans b2, ((bcell hq).1 _ _ hltY).trans b3⟩; clear b) | (go_at_call 41; refine (rtext _ _ (by assumption) _ _ _ _ (by assumption) (by omega)).mono ?_; rintro e v ⟨⟨a', N, c', rfl, hl, hN⟩, b⟩; have hq : Below Y.heap.size Y v := bchain (by assumption) b; have hS : v.cell? ⟨wr.heap.size, 0, none⟩ = some (.string r.text) ∧ v.cell? ⟨wr.heap.size, 1, none⟩ = some (.string r.category) ∧ v.cell? ⟨wr.heap.size, 2, none⟩ = some (.int .i64 r.count) ∧ v.cell? ⟨wr.heap.size, 3, none⟩ = some (.int .i64 r.price) := ⟨((bcell hq).1 _ _ hltY).trans b0, ((bcell hq).1 _ _ hltY).trans b1, ((bcell hq).1 _ _ hltY).trans b2, ((bcell hq).1 _ _ hltY).trans b3⟩; clear b) | fail)
            have HLv := Lib.hid hl
            have HBv := Lib.hid (bchain HBY.out hq)
            clear hl hq hS b0 b1 b2 b3 hlk0 hqk0
            go_wp2_with fail
            go_roundw
            case rel =>
              refine ⟨k + 1, _, _, _, by omega, rfl, by go_num, by omega, Lib.hid ?_, Lib.hid ?_, HBv⟩
              · rw [HLin.out]
                have h := HLv.out
                unfold lineB
                simpa only [List.append_assoc] using h
              · rw [HAny.out, HAk.out, HLr.out]
                rfl
            case measure => simp [intOf]; omega
          · have hall : ([r.text, r.category].all fun s => !longT s) = false := by
              unfold longX at hLr
              rw [Bool.or_eq_true] at hLr
              rcases hLr with h | h <;> simp [h]
            rw [hall]
            have HLr : Hid ((c.sem ls).long = true) := Lib.hid (by rw [HLg.out, List.any_eq_true]; exact ⟨r, HHr.out, hLr⟩)
            clear hall hLr HSt
            go_wp2_with fail
            go_ret2
            exact rput_long HKs.out (.inl HLr.out) (bchain HQ.out HBY.out)
        · obtain hkc : k = c.n := by omega
          have HTk : Hid (ls.take k = ls) := Lib.hid (List.take_of_length_le (by rw [← HLenL.out, hkc]; exact Nat.le_refl _))
          have HL9 : Hid (By.Ls wr a M d (c.sem ls).bytes) := Lib.hid (by
            have e9 : (c.sem ls).bytes = nm 4 ++ (tx c.series ++ (dayB c.y c.m c.d ++ (nm (ls.length : Int) ++ linesB ls))) := by
              simp only [S.bytes, S.fields, Cm.T.sem, hk, reduceIte, Int.reduceEq]
            have h := HLk.out
            rw [HTk.out, ← HPre.out, HLenL.out] at h
            rw [e9]
            simpa only [List.append_assoc] using h)
          have HLf : Hid ((c.sem ls).long = false) := Lib.hid (by
            have h := HAk.out
            rw [HTk.out] at h
            rw [HLg.out, h])
          have HQ9 := Lib.hid (bchain HQ.out HBk.out)
          by_cases h1024 : 1024 < M
          · have z1 : (1024 : Int) < (M : Int) := by omega
            go_wp2_with fail
            go_ret2
            exact rput_big HKs.out HL9.out h1024 HQ9.out
          · have z1 : ¬ (1024 : Int) < (M : Int) := by omega
            go_wp2_with fail
            go_ret2
            exact rput_ok HKs.out HLf.out HL9.out h1024 HQ9.out
  · have HLg : Hid ((c.sem ls).long = true) := Lib.hid (by rw [hlong, hL]; rfl)
    have hall : ([c.series].all fun s => !longT s) = false := by simp [hL]
    rw [hall]
    clear hall hL hlong HSt
    go_wp2_with fail
    go_ret2
    exact rput_long HKs.out (.inl HLg.out) HBX.out
end Go.Proofs.Ytndfhnaafaijcaa
