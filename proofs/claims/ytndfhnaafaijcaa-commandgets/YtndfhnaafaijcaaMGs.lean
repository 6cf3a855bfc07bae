/- MERGED: Cmds. (By mg.py.) -/
import Derived.Test.YtndfhnaafaijcaaMGc
/- impostkeep.Cmds: are two commands the same, field by field? (By gencmds.py.) -/
namespace Go.Proofs.Ytndfhnaafaijcaa
open Go.RowKit
open Mem

theorem toList_inj {x y : ByteArray} (h : x.toList = y.toList) : x = y := by
  rw [ByteArray.toList_eq, ByteArray.toList_eq] at h
  exact ByteArray.ext (Array.toList_inj.1 h)
theorem Cm.two_cells (a b : Cm.T) (w u : World) (h : Below ((w.alloc (.cells #[.int .i64 a.kind, .string a.series, .int .i64 a.limit, .string a.cat, .int .i64 a.fy, .int .i64 a.fm, .int .i64 a.fd, .int .i64 a.bp, .int .i64 a.y, .int .i64 a.m, .int .i64 a.d, .slice a.ao a.n a.cap, .string a.ofs, .int .i64 a.ofn, .int .i64 a.session] 37)).alloc (.cells #[.int .i64 b.kind, .string b.series, .int .i64 b.limit, .string b.cat, .int .i64 b.fy, .int .i64 b.fm, .int .i64 b.fd, .int .i64 b.bp, .int .i64 b.y, .int .i64 b.m, .int .i64 b.d, .slice b.ao b.n b.cap, .string b.ofs, .int .i64 b.ofn, .int .i64 b.session] 37)).heap.size ((w.alloc (.cells #[.int .i64 a.kind, .string a.series, .int .i64 a.limit, .string a.cat, .int .i64 a.fy, .int .i64 a.fm, .int .i64 a.fd, .int .i64 a.bp, .int .i64 a.y, .int .i64 a.m, .int .i64 a.d, .slice a.ao a.n a.cap, .string a.ofs, .int .i64 a.ofn, .int .i64 a.session] 37)).alloc (.cells #[.int .i64 b.kind, .string b.series, .int .i64 b.limit, .string b.cat, .int .i64 b.fy, .int .i64 b.fm, .int .i64 b.fd, .int .i64 b.bp, .int .i64 b.y, .int .i64 b.m, .int .i64 b.d, .slice b.ao b.n b.cap, .string b.ofs, .int .i64 b.ofn, .int .i64 b.session] 37)) u) :
    Below w.heap.size w u ∧ u.cell? ⟨w.heap.size, 12, none⟩ = some (.string a.ofs) ∧ u.cell? ⟨w.heap.size, 13, none⟩ = some (.int .i64 a.ofn) ∧ u.cell? ⟨w.heap.size, 14, none⟩ = some (.int .i64 a.session) ∧
      u.cell? ⟨w.heap.size + 1, 12, none⟩ = some (.string b.ofs) ∧ u.cell? ⟨w.heap.size + 1, 13, none⟩ = some (.int .i64 b.ofn) ∧ u.cell? ⟨w.heap.size + 1, 14, none⟩ = some (.int .i64 b.session) := by
  refine ⟨bchain (below_box (below_box (Below.refl _ _) _) _) h, ?_, ?_, ?_, ?_, ?_, ?_⟩ <;> rw [(bcell h).1 _ _ (by first | (simp; done) | (simp; omega))] <;> simp [go_sem]
set_option maxHeartbeats 40000000 in
theorem cmds_any (a b : Cm.T) (xs ys : List Ln.T) (w0 w : World) (hw : Below w0.heap.size w0 w) (hA : Cm.In w a xs) (hB : Cm.In w b ys) :
    Calls Try.prog 21 #[Cm.val a, Cm.val b] w fun e w' => (∃ v, e = .returned (.bool v) ∧ (v = true ↔ a.sem xs = b.sem ys)) ∧ Below w0.heap.size w0 w' := by
  have HW := Lib.hid hw
  have HA := Lib.hid hA
  have HB := Lib.hid hB
  clear hA hB hw
  unfold Cm.val
  go_enter Try.func21, Try.ntmps21
  by_cases e0 : a.kind = b.kind
  · have q0 : (a.kind == b.kind) = true := beq_iff_eq.2 e0
    by_cases e1 : a.series = b.series
    · have q1 : (a.series.toList == b.series.toList) = true := beq_iff_eq.2 (by rw [e1])
      by_cases e2 : a.limit = b.limit
      · have q2 : (a.limit == b.limit) = true := beq_iff_eq.2 e2
        by_cases e3 : a.cat = b.cat
        · have q3 : (a.cat.toList == b.cat.toList) = true := beq_iff_eq.2 (by rw [e3])
          by_cases e4 : a.fy = b.fy
          · have q4 : (a.fy == b.fy) = true := beq_iff_eq.2 e4
            by_cases e5 : a.fm = b.fm
            · have q5 : (a.fm == b.fm) = true := beq_iff_eq.2 e5
              by_cases e6 : a.fd = b.fd
              · have q6 : (a.fd == b.fd) = true := beq_iff_eq.2 e6
                by_cases e7 : a.bp = b.bp
                · have q7 : (a.bp == b.bp) = true := beq_iff_eq.2 e7
                  by_cases e8 : a.y = b.y
                  · have q8 : (a.y == b.y) = true := beq_iff_eq.2 e8
                    by_cases e9 : a.m = b.m
                    · have q9 : (a.m == b.m) = true := beq_iff_eq.2 e9
                      by_cases e10 : a.d = b.d
                      · have q10 : (a.d == b.d) = true := beq_iff_eq.2 e10
                        by_cases e11 : xs = ys
                        · have q11 : Ln.sameB xs ys = true := (Ln.sameB_iff xs ys).2 e11
                          by_cases e12 : a.ofs = b.ofs
                          · have q12 : (a.ofs.toList == b.ofs.toList) = true := beq_iff_eq.2 (by rw [e12])
                            by_cases e13 : a.ofn = b.ofn
                            · have q13 : (a.ofn == b.ofn) = true := beq_iff_eq.2 e13
                              by_cases e14 : a.session = b.session
                              · have q14 : (a.session == b.session) = true := beq_iff_eq.2 e14
                                have hall : a.sem xs = b.sem ys := by
                                  unfold Cm.T.sem
                                  rw [e0, e1, e2, e3, e4, e5, e6, e7, e8, e9, e10, e11, e12, e13, e14]
                                have HALL := Lib.hid hall
                                clear hall e0 e1 e2 e3 e4 e5 e6 e7 e8 e9 e10 e11 e12 e13 e14
                                go_wp2_with fail
                                refine (Ln.same_any xs ys a.ao b.ao a.n b.n a.cap b.cap _ _ (Below.refl _ _) (HA.out.lines.below (below_box (below_box (Below.refl _ _) _) _)) (HB.out.lines.below (below_box (below_box (Below.refl _ _) _) _))).mono ?_
                                rintro e w1 ⟨rfl, hw1⟩
                                obtain ⟨hbw, c1, c2, c3, d1, d2, d3⟩ := Cm.two_cells a b w w1 hw1
                                have HW1 := Lib.hid hbw
                                clear hw1 hbw
                                rw [q11]
                                go_wp2_with fail
                                go_ret
                                exact ⟨⟨true, rfl, ⟨fun _ => HALL.out, fun _ => rfl⟩⟩, bchain HW.out HW1.out⟩
                              · have q14 : (a.session == b.session) = false := beq_eq_false_iff_ne.2 e14
                                have hall : ¬ a.sem xs = b.sem ys := fun h => e14 (congrArg Cm.S.session h)
                                have HALL := Lib.hid hall
                                clear hall e0 e1 e2 e3 e4 e5 e6 e7 e8 e9 e10 e11 e12 e13 e14
                                go_wp2_with fail
                                refine (Ln.same_any xs ys a.ao b.ao a.n b.n a.cap b.cap _ _ (Below.refl _ _) (HA.out.lines.below (below_box (below_box (Below.refl _ _) _) _)) (HB.out.lines.below (below_box (below_box (Below.refl _ _) _) _))).mono ?_
                                rintro e w1 ⟨rfl, hw1⟩
                                obtain ⟨hbw, c1, c2, c3, d1, d2, d3⟩ := Cm.two_cells a b w w1 hw1
                                have HW1 := Lib.hid hbw
                                clear hw1 hbw
                                rw [q11]
                                go_wp2_with fail
                                go_ret
                                exact ⟨⟨false, rfl, ⟨(fun h => by cases h), fun h => absurd h HALL.out⟩⟩, bchain HW.out HW1.out⟩
                            · have q13 : (a.ofn == b.ofn) = false := beq_eq_false_iff_ne.2 e13
                              have hall : ¬ a.sem xs = b.sem ys := fun h => e13 (congrArg Cm.S.ofn h)
                              have HALL := Lib.hid hall
                              clear hall e0 e1 e2 e3 e4 e5 e6 e7 e8 e9 e10 e11 e12 e13
                              go_wp2_with fail
                              refine (Ln.same_any xs ys a.ao b.ao a.n b.n a.cap b.cap _ _ (Below.refl _ _) (HA.out.lines.below (below_box (below_box (Below.refl _ _) _) _)) (HB.out.lines.below (below_box (below_box (Below.refl _ _) _) _))).mono ?_
                              rintro e w1 ⟨rfl, hw1⟩
                              obtain ⟨hbw, c1, c2, c3, d1, d2, d3⟩ := Cm.two_cells a b w w1 hw1
                              have HW1 := Lib.hid hbw
                              clear hw1 hbw
                              rw [q11]
                              go_wp2_with fail
                              go_ret
                              exact ⟨⟨false, rfl, ⟨(fun h => by cases h), fun h => absurd h HALL.out⟩⟩, bchain HW.out HW1.out⟩
                          · have q12 : (a.ofs.toList == b.ofs.toList) = false := beq_eq_false_iff_ne.2 (fun h => e12 (toList_inj h))
                            have hall : ¬ a.sem xs = b.sem ys := fun h => e12 (congrArg Cm.S.ofs h)
                            have HALL := Lib.hid hall
                            clear hall e0 e1 e2 e3 e4 e5 e6 e7 e8 e9 e10 e11 e12
                            go_wp2_with fail
                            refine (Ln.same_any xs ys a.ao b.ao a.n b.n a.cap b.cap _ _ (Below.refl _ _) (HA.out.lines.below (below_box (below_box (Below.refl _ _) _) _)) (HB.out.lines.below (below_box (below_box (Below.refl _ _) _) _))).mono ?_
                            rintro e w1 ⟨rfl, hw1⟩
                            obtain ⟨hbw, c1, c2, c3, d1, d2, d3⟩ := Cm.two_cells a b w w1 hw1
                            have HW1 := Lib.hid hbw
                            clear hw1 hbw
                            rw [q11]
                            go_wp2_with fail
                            go_ret
                            exact ⟨⟨false, rfl, ⟨(fun h => by cases h), fun h => absurd h HALL.out⟩⟩, bchain HW.out HW1.out⟩
                        · have q11 : Ln.sameB xs ys = false := by rw [Bool.eq_false_iff]; exact fun h => e11 ((Ln.sameB_iff xs ys).1 h)
                          have hall : ¬ a.sem xs = b.sem ys := fun h => e11 (congrArg Cm.S.lines h)
                          have HALL := Lib.hid hall
                          clear hall e0 e1 e2 e3 e4 e5 e6 e7 e8 e9 e10 e11
                          go_wp2_with fail
                          refine (Ln.same_any xs ys a.ao b.ao a.n b.n a.cap b.cap _ _ (Below.refl _ _) (HA.out.lines.below (below_box (below_box (Below.refl _ _) _) _)) (HB.out.lines.below (below_box (below_box (Below.refl _ _) _) _))).mono ?_
                          rintro e w1 ⟨rfl, hw1⟩
                          obtain ⟨hbw, c1, c2, c3, d1, d2, d3⟩ := Cm.two_cells a b w w1 hw1
                          have HW1 := Lib.hid hbw
                          clear hw1 hbw
                          rw [q11]
                          go_wp2_with fail
                          go_ret
                          exact ⟨⟨false, rfl, ⟨(fun h => by cases h), fun h => absurd h HALL.out⟩⟩, bchain HW.out HW1.out⟩
                      · have q10 : (a.d == b.d) = false := beq_eq_false_iff_ne.2 e10
                        have hall : ¬ a.sem xs = b.sem ys := fun h => e10 (congrArg Cm.S.d h)
                        have HALL := Lib.hid hall
                        clear hall e0 e1 e2 e3 e4 e5 e6 e7 e8 e9 e10
                        go_wp2_with fail
                        go_ret
                        exact ⟨⟨false, rfl, ⟨(fun h => by cases h), fun h => absurd h HALL.out⟩⟩, below_box (below_box HW.out _) _⟩
                    · have q9 : (a.m == b.m) = false := beq_eq_false_iff_ne.2 e9
                      have hall : ¬ a.sem xs = b.sem ys := fun h => e9 (congrArg Cm.S.m h)
                      have HALL := Lib.hid hall
                      clear hall e0 e1 e2 e3 e4 e5 e6 e7 e8 e9
                      go_wp2_with fail
                      go_ret
                      exact ⟨⟨false, rfl, ⟨(fun h => by cases h), fun h => absurd h HALL.out⟩⟩, below_box (below_box HW.out _) _⟩
                  · have q8 : (a.y == b.y) = false := beq_eq_false_iff_ne.2 e8
                    have hall : ¬ a.sem xs = b.sem ys := fun h => e8 (congrArg Cm.S.y h)
                    have HALL := Lib.hid hall
                    clear hall e0 e1 e2 e3 e4 e5 e6 e7 e8
                    go_wp2_with fail
                    go_ret
                    exact ⟨⟨false, rfl, ⟨(fun h => by cases h), fun h => absurd h HALL.out⟩⟩, below_box (below_box HW.out _) _⟩
                · have q7 : (a.bp == b.bp) = false := beq_eq_false_iff_ne.2 e7
                  have hall : ¬ a.sem xs = b.sem ys := fun h => e7 (congrArg Cm.S.bp h)
                  have HALL := Lib.hid hall
                  clear hall e0 e1 e2 e3 e4 e5 e6 e7
                  go_wp2_with fail
                  go_ret
                  exact ⟨⟨false, rfl, ⟨(fun h => by cases h), fun h => absurd h HALL.out⟩⟩, below_box (below_box HW.out _) _⟩
              · have q6 : (a.fd == b.fd) = false := beq_eq_false_iff_ne.2 e6
                have hall : ¬ a.sem xs = b.sem ys := fun h => e6 (congrArg Cm.S.fd h)
                have HALL := Lib.hid hall
                clear hall e0 e1 e2 e3 e4 e5 e6
                go_wp2_with fail
                go_ret
                exact ⟨⟨false, rfl, ⟨(fun h => by cases h), fun h => absurd h HALL.out⟩⟩, below_box (below_box HW.out _) _⟩
            · have q5 : (a.fm == b.fm) = false := beq_eq_false_iff_ne.2 e5
              have hall : ¬ a.sem xs = b.sem ys := fun h => e5 (congrArg Cm.S.fm h)
              have HALL := Lib.hid hall
              clear hall e0 e1 e2 e3 e4 e5
              go_wp2_with fail
              go_ret
              exact ⟨⟨false, rfl, ⟨(fun h => by cases h), fun h => absurd h HALL.out⟩⟩, below_box (below_box HW.out _) _⟩
          · have q4 : (a.fy == b.fy) = false := beq_eq_false_iff_ne.2 e4
            have hall : ¬ a.sem xs = b.sem ys := fun h => e4 (congrArg Cm.S.fy h)
            have HALL := Lib.hid hall
            clear hall e0 e1 e2 e3 e4
            go_wp2_with fail
            go_ret
            exact ⟨⟨false, rfl, ⟨(fun h => by cases h), fun h => absurd h HALL.out⟩⟩, below_box (below_box HW.out _) _⟩
        · have q3 : (a.cat.toList == b.cat.toList) = false := beq_eq_false_iff_ne.2 (fun h => e3 (toList_inj h))
          have hall : ¬ a.sem xs = b.sem ys := fun h => e3 (congrArg Cm.S.cat h)
          have HALL := Lib.hid hall
          clear hall e0 e1 e2 e3
          go_wp2_with fail
          go_ret
          exact ⟨⟨false, rfl, ⟨(fun h => by cases h), fun h => absurd h HALL.out⟩⟩, below_box (below_box HW.out _) _⟩
      · have q2 : (a.limit == b.limit) = false := beq_eq_false_iff_ne.2 e2
        have hall : ¬ a.sem xs = b.sem ys := fun h => e2 (congrArg Cm.S.limit h)
        have HALL := Lib.hid hall
        clear hall e0 e1 e2
        go_wp2_with fail
        go_ret
        exact ⟨⟨false, rfl, ⟨(fun h => by cases h), fun h => absurd h HALL.out⟩⟩, below_box (below_box HW.out _) _⟩
    · have q1 : (a.series.toList == b.series.toList) = false := beq_eq_false_iff_ne.2 (fun h => e1 (toList_inj h))
      have hall : ¬ a.sem xs = b.sem ys := fun h => e1 (congrArg Cm.S.series h)
      have HALL := Lib.hid hall
      clear hall e0 e1
      go_wp2_with fail
      go_ret
      exact ⟨⟨false, rfl, ⟨(fun h => by cases h), fun h => absurd h HALL.out⟩⟩, below_box (below_box HW.out _) _⟩
  · have q0 : (a.kind == b.kind) = false := beq_eq_false_iff_ne.2 e0
    have hall : ¬ a.sem xs = b.sem ys := fun h => e0 (congrArg Cm.S.kind h)
    have HALL := Lib.hid hall
    clear hall e0
    go_wp2_with fail
    go_ret
    exact ⟨⟨false, rfl, ⟨(fun h => by cases h), fun h => absurd h HALL.out⟩⟩, below_box (below_box HW.out _) _⟩
end Go.Proofs.Ytndfhnaafaijcaa
