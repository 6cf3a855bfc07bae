/- THE DOCUMENT's OWN ANSWER: impostref8.Put. (By genrput.py.) -/
import Derived.Test.YtndfhnaafaijcaaRfP0
set_option linter.unusedVariables false
set_option maxRecDepth 100000
namespace Go.Proofs.Ytndfhnaafaijcaa
open Go.RowKit
open Mem Pk Cm
set_option maxHeartbeats 8000000 in
theorem rput_3 (c : Cm.T) (ls : List Ln.T) (w : World) (hI : Cm.In w c ls) (hk : c.kind = 3) :
    Calls Try.prog 23 #[Cm.val c] w (RPutE (c.sem ls) w) := by
  have HKs : Hid (1 ≤ (c.sem ls).kind ∧ (c.sem ls).kind ≤ 8) := Lib.hid (by show 1 ≤ c.kind ∧ c.kind ≤ 8; omega)
  have HI := Lib.hid hI
  obtain ⟨X0, hX0, b0, hB0⟩ := Cm.boxV w c
  have q0 : X0.cell? ⟨w.heap.size, 0, none⟩ = some (.int .i64 3) := by rw [← hk]; exact hB0.cell 0
  have HB0 := Lib.hid b0
  have hlt := hB0.lt
  have HBl := Lib.hid hB0
  rw [hk] at hX0
  clear hI b0 hB0
  unfold Cm.val
  go_enter Try.func23, Try.ntmps23
  go_wp2_with fail
  clear hX0
  refine (rnum [] 3 ⟨by omega, by omega⟩ none 0 0 X0 (By.ls_nil _) (by omega)).mono ?_
  rintro e w1 ⟨⟨a1, N1, c1, rfl, hl1, hN1⟩, b1⟩
  rw [List.nil_append] at hl1
  replace q0 := keepD b1 q0
  have HB1 := Lib.hid (bchain HB0.out b1)
  have hlt1 := cell_lt q0
  have hB1 := HBl.out.below b1
  have y3 : w1.cell? ⟨w.heap.size, 3, none⟩ = some (.string c.cat) := hB1.cell 3
  have y4 : w1.cell? ⟨w.heap.size, 4, none⟩ = some (.int .i64 c.fy) := hB1.cell 4
  have y5 : w1.cell? ⟨w.heap.size, 5, none⟩ = some (.int .i64 c.fm) := hB1.cell 5
  have y6 : w1.cell? ⟨w.heap.size, 6, none⟩ = some (.int .i64 c.fd) := hB1.cell 6
  have y7 : w1.cell? ⟨w.heap.size, 7, none⟩ = some (.int .i64 c.bp) := hB1.cell 7
  clear b1 hB1
  have f_fy : Fit c.fy := HI.out.f_fy
  have f_fm : Fit c.fm := HI.out.f_fm
  have f_fd : Fit c.fd := HI.out.f_fd
  have f_bp : Fit c.bp := HI.out.f_bp
  have hcap1 := hl1.reach
  have hfit1 := hl1.fits
  obtain ⟨X, hX⟩ : ∃ X, w1.alloc (.cells #[.string c.cat] 9) = X := ⟨_, rfl⟩
  have hbX : Below w1.heap.size w1 X := hX ▸ below_box (Below.refl _ _) _
  have HSt := Lib.hid (strs1 w1 c.cat)
  rw [hX] at HSt
  have HBX := Lib.hid (bchain HB1.out hbX)
  have HLX := Lib.hid (hl1.below hbX)
  have x3 := keepD hbX y3
  have x4 := keepD hbX y4
  have x5 := keepD hbX y5
  have x6 := keepD hbX y6
  have x7 := keepD hbX y7
  clear hbX hl1
  go_wp2_with fail
  clear hX q0 y3 y4 y5 y6 y7
  refine (rshort [c.cat] w1.heap.size 1 X rfl (by omega) HSt.out).mono ?_
  rintro e w2 ⟨rfl, rfl⟩
  rename World => X
  have hlong : (c.sem ls).long = (longT c.cat) := by simp only [S.long, Cm.T.sem, hk, reduceIte, Int.reduceEq]
  cases hL : (longT c.cat)
  · have HLg : Hid ((c.sem ls).long = false) := Lib.hid (hlong.trans hL)
    have hall : ([c.cat].all fun s => !longT s) = true := by simp [hL]
    have s_cat : c.cat.size ≤ 64 := longT_no hL
    rw [hall]
    clear hall hL hlong HSt
    have hl0 : By.Ls X.drew a1 N1 c1 (nm 3) := HLX.out.below (Below.refl _ _).drew
    have hq0 : Below X.heap.size X X.drew := (Below.refl _ _).drew
    have hltX := (cell_lt x3)
    go_wp2_with fail
    go_region_held3 (fun u => u.cell? ⟨w.heap.size, 3, none⟩ = some (.string c.cat) ∧ u.cell? ⟨w.heap.size, 4, none⟩ = some (.int .i64 c.fy) ∧ u.cell? ⟨w.heap.size, 5, none⟩ = some (.int .i64 c.fm) ∧ u.cell? ⟨w.heap.size, 6, none⟩ = some (.int .i64 c.fd) ∧ u.cell? ⟨w.heap.size, 7, none⟩ = some (.int .i64 c.bp)) (first | assumption | exact ⟨x3, x4, x5, x6, x7⟩) (first | (go_at_call 39; refine (rnum _ _ (by assumption) _ _ _ _ (by assumption) (by omega)).mono ?_; rintro e u ⟨⟨a', N, c', rfl, hl, hN⟩, b⟩; have hq : Below X.heap.size X u := bchain (by assumption) b; have hS : u.cell? ⟨w.heap.size, 3, none⟩ = some (.string c.cat) ∧ u.cell? ⟨w.heap.size, 4, none⟩ = some (.int .i64 c.fy) ∧ u.cell? ⟨w.heap.size, 5, none⟩ = some (.int .i64 c.fm) ∧ u.cell? ⟨w.heap.size, 6, none⟩ = some (.int .i64 c.fd) ∧ u.cell? ⟨w.heap.size, 7, none⟩ = some (.int .i64 c.bp) := ⟨((bcell hq).1 _ _ hltX).trans x3, ((bcell hq).1 _ _ hltX).trans x4, ((bcell hq).1 _ _ hltX).trans x5, ((bcell hq).1 _ _ hltX).trans x6, ((bcell hq).1 _ _ hltX).trans x7⟩; clear b) | (go_at_call 41; refine (rtext _ _ (by assumption) _ _ _ _ (by assumption) (by omega)).mono ?_; rintro e u ⟨⟨a', N, c', rfl, hl, hN⟩, b⟩; have hq : Below X.heap.size X u := bchain (by assumption) b; have hS : u.cell? ⟨w.heap.size, 3, none⟩ = some (.string c.cat) ∧ u.cell? ⟨w.heap.size, 4, none⟩ = some (.int .i64 c.fy) ∧ u.cell? ⟨w.heap.size, 5, none⟩ = some (.int .i64 c.fm) ∧ u.cell? ⟨w.heap.size, 6, none⟩ = some (.int .i64 c.fd) ∧ u.cell? ⟨w.heap.size, 7, none⟩ = some (.int .i64 c.bp) := ⟨((bcell hq).1 _ _ hltX).trans x3, ((bcell hq).1 _ _ hltX).trans x4, ((bcell hq).1 _ _ hltX).trans x5, ((bcell hq).1 _ _ hltX).trans x6, ((bcell hq).1 _ _ hltX).trans x7⟩; clear b) | (go_at_call 42; refine (rday _ _ _ _ (by assumption) (by assumption) (by assumption) _ _ _ _ (by assumption) (by omega)).mono ?_; rintro e u ⟨⟨a', N, c', rfl, hl, hN⟩, b⟩; have hq : Below X.heap.size X u := bchain (by assumption) b; have hS : u.cell? ⟨w.heap.size, 3, none⟩ = some (.string c.cat) ∧ u.cell? ⟨w.heap.size, 4, none⟩ = some (.int .i64 c.fy) ∧ u.cell? ⟨w.heap.size, 5, none⟩ = some (.int .i64 c.fm) ∧ u.cell? ⟨w.heap.size, 6, none⟩ = some (.int .i64 c.fd) ∧ u.cell? ⟨w.heap.size, 7, none⟩ = some (.int .i64 c.bp) := ⟨((bcell hq).1 _ _ hltX).trans x3, ((bcell hq).1 _ _ hltX).trans x4, ((bcell hq).1 _ _ hltX).trans x5, ((bcell hq).1 _ _ hltX).trans x6, ((bcell hq).1 _ _ hltX).trans x7⟩; clear b) | fail)
    have hcap9 := hl.reach
    have hfit9 := hl.fits
    have HL9 : Hid (By.Ls u a' N c' (c.sem ls).bytes) := Lib.hid (by
      have e9 : (c.sem ls).bytes = nm 3 ++ (tx c.cat ++ (dayB c.fy c.fm c.fd ++ nm c.bp)) := by
        simp only [S.bytes, S.fields, Cm.T.sem, hk, reduceIte, Int.reduceEq]
      rw [e9]
      simpa only [List.append_assoc] using hl)
    have HQ9 := Lib.hid (bchain HBX.out hq)
    by_cases h1024 : 1024 < N
    · have z1 : (1024 : Int) < (N : Int) := by omega
      go_wp2_with fail
      go_ret2
      exact rput_big HKs.out HL9.out h1024 HQ9.out
    · have z1 : ¬ (1024 : Int) < (N : Int) := by omega
      go_wp2_with fail
      go_ret2
      exact rput_ok HKs.out HLg.out HL9.out h1024 HQ9.out
  · have HLg : Hid ((c.sem ls).long = true) := Lib.hid (hlong.trans hL)
    have hall : ([c.cat].all fun s => !longT s) = false := by
      simp [hL]
    rw [hall]
    clear hall hL hlong HSt
    go_wp2_with fail
    go_ret2
    exact rput_long HKs.out (.inl HLg.out) HBX.out
set_option maxHeartbeats 8000000 in
theorem rput_5 (c : Cm.T) (ls : List Ln.T) (w : World) (hI : Cm.In w c ls) (hk : c.kind = 5) :
    Calls Try.prog 23 #[Cm.val c] w (RPutE (c.sem ls) w) := by
  have HKs : Hid (1 ≤ (c.sem ls).kind ∧ (c.sem ls).kind ≤ 8) := Lib.hid (by show 1 ≤ c.kind ∧ c.kind ≤ 8; omega)
  have HI := Lib.hid hI
  obtain ⟨X0, hX0, b0, hB0⟩ := Cm.boxV w c
  have q0 : X0.cell? ⟨w.heap.size, 0, none⟩ = some (.int .i64 5) := by rw [← hk]; exact hB0.cell 0
  have HB0 := Lib.hid b0
  have hlt := hB0.lt
  have HBl := Lib.hid hB0
  rw [hk] at hX0
  clear hI b0 hB0
  unfold Cm.val
  go_enter Try.func23, Try.ntmps23
  go_wp2_with fail
  clear hX0
  refine (rnum [] 5 ⟨by omega, by omega⟩ none 0 0 X0 (By.ls_nil _) (by omega)).mono ?_
  rintro e w1 ⟨⟨a1, N1, c1, rfl, hl1, hN1⟩, b1⟩
  rw [List.nil_append] at hl1
  replace q0 := keepD b1 q0
  have HB1 := Lib.hid (bchain HB0.out b1)
  have hlt1 := cell_lt q0
  have hB1 := HBl.out.below b1
  have y1 : w1.cell? ⟨w.heap.size, 1, none⟩ = some (.string c.series) := hB1.cell 1
  have y8 : w1.cell? ⟨w.heap.size, 8, none⟩ = some (.int .i64 c.y) := hB1.cell 8
  have y9 : w1.cell? ⟨w.heap.size, 9, none⟩ = some (.int .i64 c.m) := hB1.cell 9
  have y10 : w1.cell? ⟨w.heap.size, 10, none⟩ = some (.int .i64 c.d) := hB1.cell 10
  have y12 : w1.cell? ⟨w.heap.size, 12, none⟩ = some (.string c.ofs) := hB1.cell 12
  have y13 : w1.cell? ⟨w.heap.size, 13, none⟩ = some (.int .i64 c.ofn) := hB1.cell 13
  clear b1 hB1
  have f_y : Fit c.y := HI.out.f_y
  have f_m : Fit c.m := HI.out.f_m
  have f_d : Fit c.d := HI.out.f_d
  have f_ofn : Fit c.ofn := HI.out.f_ofn
  have hcap1 := hl1.reach
  have hfit1 := hl1.fits
  obtain ⟨X, hX⟩ : ∃ X, w1.alloc (.cells #[.string c.series, .string c.ofs] 9) = X := ⟨_, rfl⟩
  have hbX : Below w1.heap.size w1 X := hX ▸ below_box (Below.refl _ _) _
  have HSt := Lib.hid (strs2 w1 c.series c.ofs)
  rw [hX] at HSt
  have HBX := Lib.hid (bchain HB1.out hbX)
  have HLX := Lib.hid (hl1.below hbX)
  have x1 := keepD hbX y1
  have x8 := keepD hbX y8
  have x9 := keepD hbX y9
  have x10 := keepD hbX y10
  have x12 := keepD hbX y12
  have x13 := keepD hbX y13
  clear hbX hl1
  go_wp2_with fail
  clear hX q0 y1 y8 y9 y10 y12 y13
  refine (rshort [c.series, c.ofs] w1.heap.size 2 X rfl (by omega) HSt.out).mono ?_
  rintro e w2 ⟨rfl, rfl⟩
  rename World => X
  have hlong : (c.sem ls).long = (longT c.series || longT c.ofs) := by simp only [S.long, Cm.T.sem, hk, reduceIte, Int.reduceEq]
  cases hL : (longT c.series || longT c.ofs)
  · have HLg : Hid ((c.sem ls).long = false) := Lib.hid (hlong.trans hL)
    rw [Bool.or_eq_false_iff] at hL
    have hall : ([c.series, c.ofs].all fun s => !longT s) = true := by simp [hL.1, hL.2]
    have s_series : c.series.size ≤ 64 := longT_no hL.1
    have s_ofs : c.ofs.size ≤ 64 := longT_no hL.2
    rw [hall]
    clear hall hL hlong HSt
    have hl0 : By.Ls X.drew a1 N1 c1 (nm 5) := HLX.out.below (Below.refl _ _).drew
    have hq0 : Below X.heap.size X X.drew := (Below.refl _ _).drew
    have hltX := (cell_lt x1)
    go_wp2_with fail
    go_region_held3 (fun u => u.cell? ⟨w.heap.size, 1, none⟩ = some (.string c.series) ∧ u.cell? ⟨w.heap.size, 8, none⟩ = some (.int .i64 c.y) ∧ u.cell? ⟨w.heap.size, 9, none⟩ = some (.int .i64 c.m) ∧ u.cell? ⟨w.heap.size, 10, none⟩ = some (.int .i64 c.d) ∧ u.cell? ⟨w.heap.size, 12, none⟩ = some (.string c.ofs) ∧ u.cell? ⟨w.heap.size, 13, none⟩ = some (.int .i64 c.ofn)) (first | assumption | exact ⟨x1, x8, x9, x10, x12, x13⟩) (first | (go_at_call 39; refine (rnum _ _ (by assumption) _ _ _ _ (by assumption) (by omega)).mono ?_; rintro e u ⟨⟨a', N, c', rfl, hl, hN⟩, b⟩; have hq : Below X.heap.size X u := bchain (by assumption) b; have hS : u.cell? ⟨w.heap.size, 1, none⟩ = some (.string c.series) ∧ u.cell? ⟨w.heap.size, 8, none⟩ = some (.int .i64 c.y) ∧ u.cell? ⟨w.heap.size, 9, none⟩ = some (.int .i64 c.m) ∧ u.cell? ⟨w.heap.size, 10, none⟩ = some (.int .i64 c.d) ∧ u.cell? ⟨w.heap.size, 12, none⟩ = some (.string c.ofs) ∧ u.cell? ⟨w.heap.size, 13, none⟩ = some (.int .i64 c.ofn) := ⟨((bcell hq).1 _ _ hltX).trans x1, ((bcell hq).1 _ _ hltX).trans x8, ((bcell hq).1 _ _ hltX).trans x9, ((bcell hq).1 _ _ hltX).trans x10, ((bcell hq).1 _ _ hltX).trans x12, ((bcell hq).1 _ _ hltX).trans x13⟩; clear b) | (go_at_call 41; refine (rtext _ _ (by assumption) _ _ _ _ (by assumption) (by omega)).mono ?_; rintro e u ⟨⟨a', N, c', rfl, hl, hN⟩, b⟩; have hq : Below X.heap.size X u := bchain (by assumption) b; have hS : u.cell? ⟨w.heap.size, 1, none⟩ = some (.string c.series) ∧ u.cell? ⟨w.heap.size, 8, none⟩ = some (.int .i64 c.y) ∧ u.cell? ⟨w.heap.size, 9, none⟩ = some (.int .i64 c.m) ∧ u.cell? ⟨w.heap.size, 10, none⟩ = some (.int .i64 c.d) ∧ u.cell? ⟨w.heap.size, 12, none⟩ = some (.string c.ofs) ∧ u.cell? ⟨w.heap.size, 13, none⟩ = some (.int .i64 c.ofn) := ⟨((bcell hq).1 _ _ hltX).trans x1, ((bcell hq).1 _ _ hltX).trans x8, ((bcell hq).1 _ _ hltX).trans x9, ((bcell hq).1 _ _ hltX).trans x10, ((bcell hq).1 _ _ hltX).trans x12, ((bcell hq).1 _ _ hltX).trans x13⟩; clear b) | (go_at_call 42; refine (rday _ _ _ _ (by assumption) (by assumption) (by assumption) _ _ _ _ (by assumption) (by omega)).mono ?_; rintro e u ⟨⟨a', N, c', rfl, hl, hN⟩, b⟩; have hq : Below X.heap.size X u := bchain (by assumption) b; have hS : u.cell? ⟨w.heap.size, 1, none⟩ = some (.string c.series) ∧ u.cell? ⟨w.heap.size, 8, none⟩ = some (.int .i64 c.y) ∧ u.cell? ⟨w.heap.size, 9, none⟩ = some (.int .i64 c.m) ∧ u.cell? ⟨w.heap.size, 10, none⟩ = some (.int .i64 c.d) ∧ u.cell? ⟨w.heap.size, 12, none⟩ = some (.string c.ofs) ∧ u.cell? ⟨w.heap.size, 13, none⟩ = some (.int .i64 c.ofn) := ⟨((bcell hq).1 _ _ hltX).trans x1, ((bcell hq).1 _ _ hltX).trans x8, ((bcell hq).1 _ _ hltX).trans x9, ((bcell hq).1 _ _ hltX).trans x10, ((bcell hq).1 _ _ hltX).trans x12, ((bcell hq).1 _ _ hltX).trans x13⟩; clear b) | fail)
    have hcap9 := hl.reach
    have hfit9 := hl.fits
    have HL9 : Hid (By.Ls u a' N c' (c.sem ls).bytes) := Lib.hid (by
      have e9 : (c.sem ls).bytes = nm 5 ++ (tx c.series ++ (dayB c.y c.m c.d ++ (tx c.ofs ++ nm c.ofn))) := by
        simp only [S.bytes, S.fields, Cm.T.sem, hk, reduceIte, Int.reduceEq]
      rw [e9]
      simpa only [List.append_assoc] using hl)
    have HQ9 := Lib.hid (bchain HBX.out hq)
    by_cases h1024 : 1024 < N
    · have z1 : (1024 : Int) < (N : Int) := by omega
      go_wp2_with fail
      go_ret2
      exact rput_big HKs.out HL9.out h1024 HQ9.out
    · have z1 : ¬ (1024 : Int) < (N : Int) := by omega
      go_wp2_with fail
      go_ret2
      exact rput_ok HKs.out HLg.out HL9.out h1024 HQ9.out
  · have HLg : Hid ((c.sem ls).long = true) := Lib.hid (hlong.trans hL)
    have hall : ([c.series, c.ofs].all fun s => !longT s) = false := by
      rw [Bool.or_eq_true] at hL; rcases hL with hL | hL <;> simp [hL]
    rw [hall]
    clear hall hL hlong HSt
    go_wp2_with fail
    go_ret2
    exact rput_long HKs.out (.inl HLg.out) HBX.out
end Go.Proofs.Ytndfhnaafaijcaa
