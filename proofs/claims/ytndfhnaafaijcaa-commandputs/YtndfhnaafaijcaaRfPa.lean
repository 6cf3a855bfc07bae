/- THE DOCUMENT's OWN ANSWER: impostref8.Put. (By genrput.py.) -/
import Derived.Test.YtndfhnaafaijcaaRfP0
set_option linter.unusedVariables false
set_option maxRecDepth 100000
namespace Go.Proofs.Ytndfhnaafaijcaa
open Go.RowKit
open Mem Pk Cm
set_option maxHeartbeats 8000000 in
theorem rput_1 (c : Cm.T) (ls : List Ln.T) (w : World) (hI : Cm.In w c ls) (hk : c.kind = 1) :
    Calls Try.prog 23 #[Cm.val c] w (RPutE (c.sem ls) w) := by
  have HKs : Hid (1 ≤ (c.sem ls).kind ∧ (c.sem ls).kind ≤ 8) := Lib.hid (by show 1 ≤ c.kind ∧ c.kind ≤ 8; omega)
  have HI := Lib.hid hI
  obtain ⟨X0, hX0, b0, hB0⟩ := Cm.boxV w c
  have q0 : X0.cell? ⟨w.heap.size, 0, none⟩ = some (.int .i64 1) := by rw [← hk]; exact hB0.cell 0
  have HB0 := Lib.hid b0
  have hlt := hB0.lt
  have HBl := Lib.hid hB0
  rw [hk] at hX0
  clear hI b0 hB0
  unfold Cm.val
  go_enter Try.func23, Try.ntmps23
  go_wp2_with fail
  clear hX0
  refine (rnum [] 1 ⟨by omega, by omega⟩ none 0 0 X0 (By.ls_nil _) (by omega)).mono ?_
  rintro e w1 ⟨⟨a1, N1, c1, rfl, hl1, hN1⟩, b1⟩
  rw [List.nil_append] at hl1
  replace q0 := keepD b1 q0
  have HB1 := Lib.hid (bchain HB0.out b1)
  have hlt1 := cell_lt q0
  have hB1 := HBl.out.below b1
  have y1 : w1.cell? ⟨w.heap.size, 1, none⟩ = some (.string c.series) := hB1.cell 1
  have y2 : w1.cell? ⟨w.heap.size, 2, none⟩ = some (.int .i64 c.limit) := hB1.cell 2
  clear b1 hB1
  have f_limit : Fit c.limit := HI.out.f_limit
  have hcap1 := hl1.reach
  have hfit1 := hl1.fits
  obtain ⟨X, hX⟩ : ∃ X, w1.alloc (.cells #[.string c.series] 9) = X := ⟨_, rfl⟩
  have hbX : Below w1.heap.size w1 X := hX ▸ below_box (Below.refl _ _) _
  have HSt := Lib.hid (strs1 w1 c.series)
  rw [hX] at HSt
  have HBX := Lib.hid (bchain HB1.out hbX)
  have HLX := Lib.hid (hl1.below hbX)
  have x1 := keepD hbX y1
  have x2 := keepD hbX y2
  clear hbX hl1
  go_wp2_with fail
  clear hX q0 y1 y2
  refine (rshort [c.series] w1.heap.size 1 X rfl (by omega) HSt.out).mono ?_
  rintro e w2 ⟨rfl, rfl⟩
  rename World => X
  have hlong : (c.sem ls).long = (longT c.series) := by simp only [S.long, Cm.T.sem, hk, reduceIte, Int.reduceEq]
  cases hL : (longT c.series)
  · have HLg : Hid ((c.sem ls).long = false) := Lib.hid (hlong.trans hL)
    have hall : ([c.series].all fun s => !longT s) = true := by simp [hL]
    have s_series : c.series.size ≤ 64 := longT_no hL
    rw [hall]
    clear hall hL hlong HSt
    have hl0 : By.Ls X.drew a1 N1 c1 (nm 1) := HLX.out.below (Below.refl _ _).drew
    have hq0 : Below X.heap.size X X.drew := (Below.refl _ _).drew
    have hltX := (cell_lt x1)
    go_wp2_with fail
    go_region_held3 (fun u => u.cell? ⟨w.heap.size, 1, none⟩ = some (.string c.series) ∧ u.cell? ⟨w.heap.size, 2, none⟩ = some (.int .i64 c.limit)) (first | assumption | exact ⟨x1, x2⟩) (first | (go_at_call 39; refine (rnum _ _ (by assumption) _ _ _ _ (by assumption) (by omega)).mono ?_; rintro e u ⟨⟨a', N, c', rfl, hl, hN⟩, b⟩; have hq : Below X.heap.size X u := bchain (by assumption) b; have hS : u.cell? ⟨w.heap.size, 1, none⟩ = some (.string c.series) ∧ u.cell? ⟨w.heap.size, 2, none⟩ = some (.int .i64 c.limit) := ⟨((bcell hq).1 _ _ hltX).trans x1, ((bcell hq).1 _ _ hltX).trans x2⟩; clear b) | (go_at_call 41; refine (rtext _ _ (by assumption) _ _ _ _ (by assumption) (by omega)).mono ?_; rintro e u ⟨⟨a', N, c', rfl, hl, hN⟩, b⟩; have hq : Below X.heap.size X u := bchain (by assumption) b; have hS : u.cell? ⟨w.heap.size, 1, none⟩ = some (.string c.series) ∧ u.cell? ⟨w.heap.size, 2, none⟩ = some (.int .i64 c.limit) := ⟨((bcell hq).1 _ _ hltX).trans x1, ((bcell hq).1 _ _ hltX).trans x2⟩; clear b) | (go_at_call 42; refine (rday _ _ _ _ (by assumption) (by assumption) (by assumption) _ _ _ _ (by assumption) (by omega)).mono ?_; rintro e u ⟨⟨a', N, c', rfl, hl, hN⟩, b⟩; have hq : Below X.heap.size X u := bchain (by assumption) b; have hS : u.cell? ⟨w.heap.size, 1, none⟩ = some (.string c.series) ∧ u.cell? ⟨w.heap.size, 2, none⟩ = some (.int .i64 c.limit) := ⟨((bcell hq).1 _ _ hltX).trans x1, ((bcell hq).1 _ _ hltX).trans x2⟩; clear b) | fail)
    have hcap9 := hl.reach
    have hfit9 := hl.fits
    have HL9 : Hid (By.Ls u a' N c' (c.sem ls).bytes) := Lib.hid (by
      have e9 : (c.sem ls).bytes = nm 1 ++ (tx c.series ++ nm c.limit) := by
        simp only [S.bytes, S.fields, Cm.T.sem, hk, reduceIte, Int.reduceEq]
      rw [e9]
      simpa only [List.append_assoc] using hl)
    have HQ9 := Lib.hid (bchain HBX.out hq)
    by_cases h1024 : 1024 < N
    · have z1 : (1024 : Int) < (N : Int) := by omega
      go_wp2_with fail
      go_ret2
      exact rput_big HKs.out HL9.out h1024 HQ9.out
    · have z1 : ¬ (1024 : Int) < (N : Int) := by omega
      go_wp2_with fail
      go_ret2
      exact rput_ok HKs.out HLg.out HL9.out h1024 HQ9.out
  · have HLg : Hid ((c.sem ls).long = true) := Lib.hid (hlong.trans hL)
    have hall : ([c.series].all fun s => !longT s) = false := by
      simp [hL]
    rw [hall]
    clear hall hL hlong HSt
    go_wp2_with fail
    go_ret2
    exact rput_long HKs.out (.inl HLg.out) HBX.out
set_option maxHeartbeats 8000000 in
theorem rput_2 (c : Cm.T) (ls : List Ln.T) (w : World) (hI : Cm.In w c ls) (hk : c.kind = 2) :
    Calls Try.prog 23 #[Cm.val c] w (RPutE (c.sem ls) w) := by
  have HKs : Hid (1 ≤ (c.sem ls).kind ∧ (c.sem ls).kind ≤ 8) := Lib.hid (by show 1 ≤ c.kind ∧ c.kind ≤ 8; omega)
  have HI := Lib.hid hI
  obtain ⟨X0, hX0, b0, hB0⟩ := Cm.boxV w c
  have q0 : X0.cell? ⟨w.heap.size, 0, none⟩ = some (.int .i64 2) := by rw [← hk]; exact hB0.cell 0
  have HB0 := Lib.hid b0
  have hlt := hB0.lt
  have HBl := Lib.hid hB0
  rw [hk] at hX0
  clear hI b0 hB0
  unfold Cm.val
  go_enter Try.func23, Try.ntmps23
  go_wp2_with fail
  clear hX0
  refine (rnum [] 2 ⟨by omega, by omega⟩ none 0 0 X0 (By.ls_nil _) (by omega)).mono ?_
  rintro e w1 ⟨⟨a1, N1, c1, rfl, hl1, hN1⟩, b1⟩
  rw [List.nil_append] at hl1
  replace q0 := keepD b1 q0
  have HB1 := Lib.hid (bchain HB0.out b1)
  have hlt1 := cell_lt q0
  have hB1 := HBl.out.below b1
  have y1 : w1.cell? ⟨w.heap.size, 1, none⟩ = some (.string c.series) := hB1.cell 1
  clear b1 hB1
  have hcap1 := hl1.reach
  have hfit1 := hl1.fits
  obtain ⟨X, hX⟩ : ∃ X, w1.alloc (.cells #[.string c.series] 9) = X := ⟨_, rfl⟩
  have hbX : Below w1.heap.size w1 X := hX ▸ below_box (Below.refl _ _) _
  have HSt := Lib.hid (strs1 w1 c.series)
  rw [hX] at HSt
  have HBX := Lib.hid (bchain HB1.out hbX)
  have HLX := Lib.hid (hl1.below hbX)
  have x1 := keepD hbX y1
  clear hbX hl1
  go_wp2_with fail
  clear hX q0 y1
  refine (rshort [c.series] w1.heap.size 1 X rfl (by omega) HSt.out).mono ?_
  rintro e w2 ⟨rfl, rfl⟩
  rename World => X
  have hlong : (c.sem ls).long = (longT c.series) := by simp only [S.long, Cm.T.sem, hk, reduceIte, Int.reduceEq]
  cases hL : (longT c.series)
  · have HLg : Hid ((c.sem ls).long = false) := Lib.hid (hlong.trans hL)
    have hall : ([c.series].all fun s => !longT s) = true := by simp [hL]
    have s_series : c.series.size ≤ 64 := longT_no hL
    rw [hall]
    clear hall hL hlong HSt
    have HLX' := HLX
    go_wp2_with fail
    refine (rtext _ _ s_series _ _ _ _ HLX'.out (by omega)).mono ?_
    rintro e u ⟨⟨a', N, c', rfl, hl, hN⟩, hq⟩
    have hcap9 := hl.reach
    have hfit9 := hl.fits
    have HL9 : Hid (By.Ls u a' N c' (c.sem ls).bytes) := Lib.hid (by
      have e9 : (c.sem ls).bytes = nm 2 ++ tx c.series := by
        simp only [S.bytes, S.fields, Cm.T.sem, hk, reduceIte, Int.reduceEq]
      rw [e9]
      simpa only [List.append_assoc] using hl)
    have HQ9 := Lib.hid (bchain HBX.out hq)
    by_cases h1024 : 1024 < N
    · have z1 : (1024 : Int) < (N : Int) := by omega
      go_wp2_with fail
      go_ret2
      exact rput_big HKs.out HL9.out h1024 HQ9.out
    · have z1 : ¬ (1024 : Int) < (N : Int) := by omega
      go_wp2_with fail
      go_ret2
      exact rput_ok HKs.out HLg.out HL9.out h1024 HQ9.out
  · have HLg : Hid ((c.sem ls).long = true) := Lib.hid (hlong.trans hL)
    have hall : ([c.series].all fun s => !longT s) = false := by
      simp [hL]
    rw [hall]
    clear hall hL hlong HSt
    go_wp2_with fail
    go_ret2
    exact rput_long HKs.out (.inl HLg.out) HBX.out
set_option maxHeartbeats 8000000 in
theorem rput_8 (c : Cm.T) (ls : List Ln.T) (w : World) (hI : Cm.In w c ls) (hk : c.kind = 8) :
    Calls Try.prog 23 #[Cm.val c] w (RPutE (c.sem ls) w) := by
  have HKs : Hid (1 ≤ (c.sem ls).kind ∧ (c.sem ls).kind ≤ 8) := Lib.hid (by show 1 ≤ c.kind ∧ c.kind ≤ 8; omega)
  have HI := Lib.hid hI
  obtain ⟨X0, hX0, b0, hB0⟩ := Cm.boxV w c
  have q0 : X0.cell? ⟨w.heap.size, 0, none⟩ = some (.int .i64 8) := by rw [← hk]; exact hB0.cell 0
  have HB0 := Lib.hid b0
  have hlt := hB0.lt
  have HBl := Lib.hid hB0
  rw [hk] at hX0
  clear hI b0 hB0
  unfold Cm.val
  go_enter Try.func23, Try.ntmps23
  go_wp2_with fail
  clear hX0
  refine (rnum [] 8 ⟨by omega, by omega⟩ none 0 0 X0 (By.ls_nil _) (by omega)).mono ?_
  rintro e w1 ⟨⟨a1, N1, c1, rfl, hl1, hN1⟩, b1⟩
  rw [List.nil_append] at hl1
  replace q0 := keepD b1 q0
  have HB1 := Lib.hid (bchain HB0.out b1)
  have hlt1 := cell_lt q0
  have hB1 := HBl.out.below b1
  have y1 : w1.cell? ⟨w.heap.size, 1, none⟩ = some (.string c.series) := hB1.cell 1
  clear b1 hB1
  have hcap1 := hl1.reach
  have hfit1 := hl1.fits
  obtain ⟨X, hX⟩ : ∃ X, w1.alloc (.cells #[.string c.series] 9) = X := ⟨_, rfl⟩
  have hbX : Below w1.heap.size w1 X := hX ▸ below_box (Below.refl _ _) _
  have HSt := Lib.hid (strs1 w1 c.series)
  rw [hX] at HSt
  have HBX := Lib.hid (bchain HB1.out hbX)
  have HLX := Lib.hid (hl1.below hbX)
  have x1 := keepD hbX y1
  clear hbX hl1
  go_wp2_with fail
  clear hX q0 y1
  refine (rshort [c.series] w1.heap.size 1 X rfl (by omega) HSt.out).mono ?_
  rintro e w2 ⟨rfl, rfl⟩
  rename World => X
  have hlong : (c.sem ls).long = (longT c.series) := by simp only [S.long, Cm.T.sem, hk, reduceIte, Int.reduceEq]
  cases hL : (longT c.series)
  · have HLg : Hid ((c.sem ls).long = false) := Lib.hid (hlong.trans hL)
    have hall : ([c.series].all fun s => !longT s) = true := by simp [hL]
    have s_series : c.series.size ≤ 64 := longT_no hL
    rw [hall]
    clear hall hL hlong HSt
    have HLX' := HLX
    go_wp2_with fail
    refine (rtext _ _ s_series _ _ _ _ HLX'.out (by omega)).mono ?_
    rintro e u ⟨⟨a', N, c', rfl, hl, hN⟩, hq⟩
    have hcap9 := hl.reach
    have hfit9 := hl.fits
    have HL9 : Hid (By.Ls u a' N c' (c.sem ls).bytes) := Lib.hid (by
      have e9 : (c.sem ls).bytes = nm 8 ++ tx c.series := by
        simp only [S.bytes, S.fields, Cm.T.sem, hk, reduceIte, Int.reduceEq]
      rw [e9]
      simpa only [List.append_assoc] using hl)
    have HQ9 := Lib.hid (bchain HBX.out hq)
    by_cases h1024 : 1024 < N
    · have z1 : (1024 : Int) < (N : Int) := by omega
      go_wp2_with fail
      go_ret2
      exact rput_big HKs.out HL9.out h1024 HQ9.out
    · have z1 : ¬ (1024 : Int) < (N : Int) := by omega
      go_wp2_with fail
      go_ret2
      exact rput_ok HKs.out HLg.out HL9.out h1024 HQ9.out
  · have HLg : Hid ((c.sem ls).long = true) := Lib.hid (hlong.trans hL)
    have hall : ([c.series].all fun s => !longT s) = false := by
      simp [hL]
    rw [hall]
    clear hall hL hlong HSt
    go_wp2_with fail
    go_ret2
    exact rput_long HKs.out (.inl HLg.out) HBX.out
set_option maxHeartbeats 8000000 in
theorem rput_6 (c : Cm.T) (ls : List Ln.T) (w : World) (hI : Cm.In w c ls) (hk : c.kind = 6) :
    Calls Try.prog 23 #[Cm.val c] w (RPutE (c.sem ls) w) := by
  have HKs : Hid (1 ≤ (c.sem ls).kind ∧ (c.sem ls).kind ≤ 8) := Lib.hid (by show 1 ≤ c.kind ∧ c.kind ≤ 8; omega)
  have HI := Lib.hid hI
  obtain ⟨X0, hX0, b0, hB0⟩ := Cm.boxV w c
  have q0 : X0.cell? ⟨w.heap.size, 0, none⟩ = some (.int .i64 6) := by rw [← hk]; exact hB0.cell 0
  have HB0 := Lib.hid b0
  have hlt := hB0.lt
  have HBl := Lib.hid hB0
  rw [hk] at hX0
  clear hI b0 hB0
  unfold Cm.val
  go_enter Try.func23, Try.ntmps23
  go_wp2_with fail
  clear hX0
  refine (rnum [] 6 ⟨by omega, by omega⟩ none 0 0 X0 (By.ls_nil _) (by omega)).mono ?_
  rintro e w1 ⟨⟨a1, N1, c1, rfl, hl1, hN1⟩, b1⟩
  rw [List.nil_append] at hl1
  replace q0 := keepD b1 q0
  have HB1 := Lib.hid (bchain HB0.out b1)
  have hlt1 := cell_lt q0
  have hB1 := HBl.out.below b1
  clear b1 hB1
  have hl := hl1
  obtain ⟨u, hu⟩ : ∃ u, u = w1 := ⟨_, rfl⟩
  subst hu
  obtain ⟨a', ha'⟩ : ∃ a', a' = a1 := ⟨_, rfl⟩
  subst ha'
  have hcap9 := hl.reach
  have hfit9 := hl.fits
  have HL9 : Hid (By.Ls u a' N1 c1 (c.sem ls).bytes) := Lib.hid (by
    have e9 : (c.sem ls).bytes = nm 6 ++ [] := by
      simp only [S.bytes, S.fields, Cm.T.sem, hk, reduceIte, Int.reduceEq]
    rw [e9]
    simpa only [List.append_nil] using hl)
  have HQ9 := Lib.hid (bchain HB1.out (Below.refl _ _))
  by_cases h1024 : 1024 < N1
  · omega
  · have z1 : ¬ (1024 : Int) < (N1 : Int) := by omega
    go_wp2_with fail
    go_ret2
    exact rput_ok HKs.out (by simp only [S.long, Cm.T.sem, hk, reduceIte, Int.reduceEq]) HL9.out h1024 HQ9.out
set_option maxHeartbeats 8000000 in
theorem rput_7 (c : Cm.T) (ls : List Ln.T) (w : World) (hI : Cm.In w c ls) (hk : c.kind = 7) :
    Calls Try.prog 23 #[Cm.val c] w (RPutE (c.sem ls) w) := by
  have HKs : Hid (1 ≤ (c.sem ls).kind ∧ (c.sem ls).kind ≤ 8) := Lib.hid (by show 1 ≤ c.kind ∧ c.kind ≤ 8; omega)
  have HI := Lib.hid hI
  obtain ⟨X0, hX0, b0, hB0⟩ := Cm.boxV w c
  have q0 : X0.cell? ⟨w.heap.size, 0, none⟩ = some (.int .i64 7) := by rw [← hk]; exact hB0.cell 0
  have HB0 := Lib.hid b0
  have hlt := hB0.lt
  have HBl := Lib.hid hB0
  rw [hk] at hX0
  clear hI b0 hB0
  unfold Cm.val
  go_enter Try.func23, Try.ntmps23
  go_wp2_with fail
  clear hX0
  refine (rnum [] 7 ⟨by omega, by omega⟩ none 0 0 X0 (By.ls_nil _) (by omega)).mono ?_
  rintro e w1 ⟨⟨a1, N1, c1, rfl, hl1, hN1⟩, b1⟩
  rw [List.nil_append] at hl1
  replace q0 := keepD b1 q0
  have HB1 := Lib.hid (bchain HB0.out b1)
  have hlt1 := cell_lt q0
  have hB1 := HBl.out.below b1
  have y14 : w1.cell? ⟨w.heap.size, 14, none⟩ = some (.int .i64 c.session) := hB1.cell 14
  clear b1 hB1
  have f_session : Fit c.session := HI.out.f_session
  have hcap1 := hl1.reach
  have hfit1 := hl1.fits
  have HL1 := Lib.hid hl1
  clear hl1
  go_wp2_with fail
  refine (rnum _ _ f_session _ _ _ _ HL1.out (by omega)).mono ?_
  rintro e u ⟨⟨a', N, c', rfl, hl, hN⟩, hq⟩
  have HBX := HB1
  have hcap9 := hl.reach
  have hfit9 := hl.fits
  have HL9 : Hid (By.Ls u a' N c' (c.sem ls).bytes) := Lib.hid (by
    have e9 : (c.sem ls).bytes = nm 7 ++ nm c.session := by
      simp only [S.bytes, S.fields, Cm.T.sem, hk, reduceIte, Int.reduceEq]
    rw [e9]
    simpa only [List.append_assoc] using hl)
  have HQ9 := Lib.hid (bchain HBX.out hq)
  by_cases h1024 : 1024 < N
  · have z1 : (1024 : Int) < (N : Int) := by omega
    go_wp2_with fail
    go_ret2
    exact rput_big HKs.out HL9.out h1024 HQ9.out
  · have z1 : ¬ (1024 : Int) < (N : Int) := by omega
    go_wp2_with fail
    go_ret2
    exact rput_ok HKs.out (by simp only [S.long, Cm.T.sem, hk, reduceIte, Int.reduceEq]) HL9.out h1024 HQ9.out
end Go.Proofs.Ytndfhnaafaijcaa
