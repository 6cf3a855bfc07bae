/- ConfMeets, walked. (By gencfm.py.) -/
import Derived.Test.YtnelakpagjdcdaaCfR
set_option maxRecDepth 100000
set_option linter.unusedVariables false
namespace Go.Proofs.Ytnelakpagjdcdaa
open Go.RowKit
open Mem Cf

set_option maxHeartbeats 2000000 in
theorem confMeets_walk (m n a b : Int) (w : World) (h0 : (Lit.int .i64 m).wf = true) (h1 : (Lit.int .i64 n).wf = true) (h2 : (Lit.int .i64 a).wf = true) (h3 : (Lit.int .i64 b).wf = true) :
    Calls Try.prog 6 #[.int .i64 m, .int .i64 n, .int .i64 a, .int .i64 b] w fun e w' => e = .returned (.bool true) ∧ Below w.heap.size w w' := by
  clear h0 h1 h2 h3
  have HM : Hid (mostB m a = true → mostB m b = true → ((cnt (bits .and .i64 (bits .and .i64 m a) b) : Int) == 0) = false) := Lib.hid fun p q => by
    have := most_meet m a b p q
    rw [beq_eq_false_iff_ne]
    omega
  have HN : Hid (mayB m n = true → mostB m a = true → mostB n b = true → ((cnt (bits .and .i64 (bits .and .i64 (bits .and .i64 m n) a) b) : Int) == 0) = false) := Lib.hid fun o p q => by
    have := most_next m n a b o p q
    rw [beq_eq_false_iff_ne]
    omega
  have CA := Lib.hid (cf_most m a w)
  have CB := Lib.hid (cf_most m b w)
  have CM := Lib.hid (cf_may m n w)
  have CN := Lib.hid (cf_most n b w)
  have C1 := Lib.hid (cf_count (bits .and .i64 (bits .and .i64 m a) b) w)
  have C2 := Lib.hid (cf_count (bits .and .i64 (bits .and .i64 (bits .and .i64 m n) a) b) w)
  have CR := Lib.hid (conf_runs w w (Below.refl _ _))
  generalize mostB m a = p at *
  generalize mostB m b = q at *
  generalize mostB n b = r at *
  generalize mayB m n = o at *
  generalize cnt (bits .and .i64 (bits .and .i64 m a) b) = x at *
  generalize cnt (bits .and .i64 (bits .and .i64 (bits .and .i64 m n) a) b) = y at *
  go_enter Try.func6, Try.ntmps6
  go_wp2_with fail
  cases p
  · refine (CA.out).mono ?_
    rintro e u ⟨rfl, hu⟩
    rw [hu]
    clear hu u
    go_wp2_with fail
    cases o
    · refine (CM.out).mono ?_
      rintro e u ⟨rfl, hu⟩
      rw [hu]
      clear hu u
      go_wp2_with fail
      refine CR.out.mono ?_
      rintro e w3 ⟨rfl, hb⟩
      have HB3 := Lib.hid hb
      clear hb
      go_wp2_with fail
      go_ret
      exact ⟨rfl, HB3.out⟩
    · refine (CM.out).mono ?_
      rintro e u ⟨rfl, hu⟩
      rw [hu]
      clear hu u
      go_wp2_with fail
      refine (CA.out).mono ?_
      rintro e u ⟨rfl, hu⟩
      rw [hu]
      clear hu u
      go_wp2_with fail
      refine CR.out.mono ?_
      rintro e w3 ⟨rfl, hb⟩
      have HB3 := Lib.hid hb
      clear hb
      go_wp2_with fail
      go_ret
      exact ⟨rfl, HB3.out⟩
  cases q
  · refine (CA.out).mono ?_
    rintro e u ⟨rfl, hu⟩
    rw [hu]
    clear hu u
    go_wp2_with fail
    refine (CB.out).mono ?_
    rintro e u ⟨rfl, hu⟩
    rw [hu]
    clear hu u
    go_wp2_with fail
    cases o
    · refine (CM.out).mono ?_
      rintro e u ⟨rfl, hu⟩
      rw [hu]
      clear hu u
      go_wp2_with fail
      refine CR.out.mono ?_
      rintro e w3 ⟨rfl, hb⟩
      have HB3 := Lib.hid hb
      clear hb
      go_wp2_with fail
      go_ret
      exact ⟨rfl, HB3.out⟩
    cases r
    · refine (CM.out).mono ?_
      rintro e u ⟨rfl, hu⟩
      rw [hu]
      clear hu u
      go_wp2_with fail
      refine (CA.out).mono ?_
      rintro e u ⟨rfl, hu⟩
      rw [hu]
      clear hu u
      go_wp2_with fail
      refine (CN.out).mono ?_
      rintro e u ⟨rfl, hu⟩
      rw [hu]
      clear hu u
      go_wp2_with fail
      refine CR.out.mono ?_
      rintro e w3 ⟨rfl, hb⟩
      have HB3 := Lib.hid hb
      clear hb
      go_wp2_with fail
      go_ret
      exact ⟨rfl, HB3.out⟩
    · have k2 := HN.out (by first | exact trivial | rfl) (by first | exact trivial | rfl) (by first | exact trivial | rfl)
      refine (CM.out).mono ?_
      rintro e u ⟨rfl, hu⟩
      rw [hu]
      clear hu u
      go_wp2_with fail
      refine (CA.out).mono ?_
      rintro e u ⟨rfl, hu⟩
      rw [hu]
      clear hu u
      go_wp2_with fail
      refine (CN.out).mono ?_
      rintro e u ⟨rfl, hu⟩
      rw [hu]
      clear hu u
      go_wp2_with fail
      refine (C2.out).mono ?_
      rintro e u ⟨rfl, hu⟩
      rw [hu]
      clear hu u
      go_wp2_with fail
      refine CR.out.mono ?_
      rintro e w3 ⟨rfl, hb⟩
      have HB3 := Lib.hid hb
      clear hb
      go_wp2_with fail
      go_ret
      exact ⟨rfl, HB3.out⟩
  · have k1 := HM.out (by first | exact trivial | rfl) (by first | exact trivial | rfl)
    refine (CA.out).mono ?_
    rintro e u ⟨rfl, hu⟩
    rw [hu]
    clear hu u
    go_wp2_with fail
    refine (CB.out).mono ?_
    rintro e u ⟨rfl, hu⟩
    rw [hu]
    clear hu u
    go_wp2_with fail
    refine (C1.out).mono ?_
    rintro e u ⟨rfl, hu⟩
    rw [hu]
    clear hu u
    go_wp2_with fail
    cases o
    · refine (CM.out).mono ?_
      rintro e u ⟨rfl, hu⟩
      rw [hu]
      clear hu u
      go_wp2_with fail
      refine CR.out.mono ?_
      rintro e w3 ⟨rfl, hb⟩
      have HB3 := Lib.hid hb
      clear hb
      go_wp2_with fail
      go_ret
      exact ⟨rfl, HB3.out⟩
    cases r
    · refine (CM.out).mono ?_
      rintro e u ⟨rfl, hu⟩
      rw [hu]
      clear hu u
      go_wp2_with fail
      refine (CA.out).mono ?_
      rintro e u ⟨rfl, hu⟩
      rw [hu]
      clear hu u
      go_wp2_with fail
      refine (CN.out).mono ?_
      rintro e u ⟨rfl, hu⟩
      rw [hu]
      clear hu u
      go_wp2_with fail
      refine CR.out.mono ?_
      rintro e w3 ⟨rfl, hb⟩
      have HB3 := Lib.hid hb
      clear hb
      go_wp2_with fail
      go_ret
      exact ⟨rfl, HB3.out⟩
    · have k2 := HN.out (by first | exact trivial | rfl) (by first | exact trivial | rfl) (by first | exact trivial | rfl)
      refine (CM.out).mono ?_
      rintro e u ⟨rfl, hu⟩
      rw [hu]
      clear hu u
      go_wp2_with fail
      refine (CA.out).mono ?_
      rintro e u ⟨rfl, hu⟩
      rw [hu]
      clear hu u
      go_wp2_with fail
      refine (CN.out).mono ?_
      rintro e u ⟨rfl, hu⟩
      rw [hu]
      clear hu u
      go_wp2_with fail
      refine (C2.out).mono ?_
      rintro e u ⟨rfl, hu⟩
      rw [hu]
      clear hu u
      go_wp2_with fail
      refine CR.out.mono ?_
      rintro e w3 ⟨rfl, hb⟩
      have HB3 := Lib.hid hb
      clear hb
      go_wp2_with fail
      go_ret
      exact ⟨rfl, HB3.out⟩
end Go.Proofs.Ytnelakpagjdcdaa
