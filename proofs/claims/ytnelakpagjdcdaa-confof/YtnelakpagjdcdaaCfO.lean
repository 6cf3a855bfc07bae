/- CONTRACTS OF PACKAGE conf: Of. (By gencfo.py.) -/
import Derived.Test.YtnelakpagjdcdaaHdIn
import Derived.Test.YtnelakpagjdcdaaEtR
import Derived.Lib.QuietBelow
set_option maxRecDepth 100000
set_option linter.unusedVariables false
namespace Go.Proofs.Ytnelakpagjdcdaa.Cf
open Go.RowKit
open Mem
open Go.Sort (grow)

/-- who belongs by the first entries, and the number of the entry that says so -/
def ofK (mem base : Int) (l : List Et.T) : Nat → Int × Int
  | 0 => (mem, base)
  | k + 1 => match l[k]? with
    | some e => if e.mem = 0 then ofK mem base l k else (e.mem, wrap64 (base + ((k + 1 : Nat) : Int)))
    | none => ofK mem base l k
theorem ofK_none {mem base : Int} {l : List Et.T} {k : Nat} {e : Et.T} (h : l[k]? = some e) (hm : e.mem = 0) : ofK mem base l (k + 1) = ofK mem base l k := by
  rw [ofK, h]
  exact if_pos hm
theorem ofK_some {mem base : Int} {l : List Et.T} {k : Nat} {e : Et.T} (h : l[k]? = some e) (hm : e.mem ≠ 0) : ofK mem base l (k + 1) = (e.mem, wrap64 (base + ((k + 1 : Nat) : Int))) := by
  rw [ofK, h]
  exact if_neg hm
theorem ofK_take {mem base : Int} {l : List Et.T} (n : Nat) : ∀ k, k ≤ n → ofK mem base (l.take n) k = ofK mem base l k
  | 0, _ => rfl
  | k + 1, h => by
    rw [ofK, ofK, ofK_take n k (by omega), List.getElem?_take_of_lt (by omega)]
theorem wrap_two (b : Int) (k : Nat) : wrap64 (wrap64 (b + 1) + (k : Int)) = wrap64 (b + ((k + 1 : Nat) : Int)) := by
  unfold wrap64
  omega
set_option maxHeartbeats 2000000 in
theorem cf_of (r : Hd.T) (l : List Et.T) (w : World) (hl : Et.Ls w r.log.ao r.log.n r.log.cap l) (hn : r.log.n ≤ 9223372036854775806) :
    Calls Try.prog 20 #[Hd.val r] w fun e w' => e = .returned (.tuple #[.int .i64 (ofK r.mem r.base l l.length).1, .int .i64 (ofK r.mem r.base l l.length).2]) ∧ Below w.heap.size w w' := by
  obtain ⟨⟨ao, n, cap⟩, hlog⟩ : ∃ s, r.log = s := ⟨_, rfl⟩
  rw [hlog] at hl hn
  dsimp only at hl hn
  obtain ⟨W, hW, hbW, hC⟩ := Hd.boxed1 w r
  have HB := Lib.hid hbW
  have HL := Lib.hid (hl.below hbW)
  have HN := Lib.hid hl.len
  have h1 := hl.fits
  have h2 := hl.reach
  unfold Hd.C at hC
  rw [hlog] at hC hW
  dsimp only at hC hW
  obtain ⟨a0, a1, a2, a3, a4, a5, a6⟩ := hC
  have hlt := cell_lt a6
  have lz : ∀ y, Below W.heap.size W y → y.cell? ⟨w.heap.size, 2, none⟩ = some (.int .i64 r.base) ∧ y.cell? ⟨w.heap.size, 4, none⟩ = some (.int .i64 r.mem) ∧ y.cell? ⟨w.heap.size, 6, none⟩ = some (.slice ao n cap) :=
    fun y k => ⟨((bcell k).1 _ _ hlt).trans a2, ((bcell k).1 _ _ hlt).trans a4, ((bcell k).1 _ _ hlt).trans a6⟩
  have LZ := Lib.hid lz
  unfold Hd.val
  rw [hlog]
  dsimp only
  have HS : Hid (ofK r.mem r.base l n = ofK r.mem r.base l l.length) := Lib.hid (by rw [HN.out])
  generalize ofK r.mem r.base l l.length = res at *
  clear hl hlog hbW lz
  go_enter Try.func20, Try.ntmps20
  go_wp2_with fail
  clear a0 a1 a2 a3 a4 a5 a6 hW hlt
  go_loopw [4, 5] (fun i _ wr => ∃ k : Nat, k ≤ n ∧ i = .int .i64 ((k : Nat) : Int) ∧ Hid (ofK r.mem r.base l k = res) ∧ Hid (Below W.heap.size W wr)) (fun i _ _ => ((intOf i) + 1).toNat)
  case atStart => exact ⟨n, Nat.le_refl _, rfl, HS, Lib.hid (Below.refl _ _)⟩
  case round =>
    rename World => wz
    obtain ⟨k, hk, rfl, HK, HBz⟩ := hrel
    obtain ⟨x2, x4, x6⟩ := LZ.out wz HBz.out
    have x2' := cell_regrown x2
    have x4' := cell_regrown x4
    have x6' := cell_regrown x6
    rcases k with _ | k
    · have HX : Hid (res = (r.mem, r.base)) := Lib.hid (by rw [← HK.out]; rfl)
      go_wp2
      refine wp_region_quiet_below (by kernel_rfl) (by kernel_rfl) ?_
      repeat (first | go_big_quiet_step (fail) | quiet_step (fail))
      refine wpQuiet_nil ?_
      intro _ hw'
      obtain ⟨⟨dq, osq⟩, hw''⟩ := hw'
      subst hw''
      have HBv := Lib.hid (bchain HBz.out (below_regrown wz dq osq))
      go_wp2
      go_ret2
      exact ⟨by rw [HX.out]; rfl, bchain HB.out HBv.out⟩
    · have hka : k < l.length := by have := HN.out; omega
      obtain ⟨ga, oa, rfl⟩ := HL.out.at (by omega)
      have hra := (HL.out.row k hka).below HBz.out
      have HE : Hid (l[k]? = some l[k]) := Lib.hid (List.getElem?_eq_getElem hka)
      obtain ⟨x, hx⟩ : ∃ x, l[k] = x := ⟨_, rfl⟩
      rw [hx] at hra HE
      clear hx
      obtain ⟨g0, g1, g2⟩ := hra
      have g1' := cell_regrown g1
      have e0 : ((k : Int) + 1) - 1 = (k : Int) := by omega
      by_cases c2 : x.mem = 0
      · have HX : Hid (ofK r.mem r.base l k = res) := Lib.hid (by rw [← HK.out, ofK_none HE.out c2])
        go_wp2_with fail
        go_roundw
        case rel => exact ⟨k, by omega, by go_num, HX, HBz⟩
        case measure => simp [intOf] <;> omega
      · have HX : Hid (res = (x.mem, wrap64 (r.base + ((k + 1 : Nat) : Int)))) := Lib.hid (by rw [← HK.out, ofK_some HE.out c2])
        go_wp2
        refine wp_region_quiet_below (by kernel_rfl) (by kernel_rfl) ?_
        repeat (first | go_big_quiet_step (fail) | quiet_step (fail))
        refine wpQuiet_nil ?_
        intro _ hw'
        obtain ⟨⟨dq, osq⟩, hw''⟩ := hw'
        subst hw''
        have HBv := Lib.hid (bchain HBz.out (below_regrown wz dq osq))
        go_wp2
        go_ret2
        exact ⟨by rw [HX.out]; rfl, bchain HB.out HBv.out⟩
set_option maxHeartbeats 2000000 in
theorem rf_of (r : Hd.T) (l : List Et.T) (w : World) (hl : Et.Ls w r.log.ao r.log.n r.log.cap l) (hn : r.log.n ≤ 9223372036854775806) :
    Calls Try.prog 21 #[Hd.val r] w fun e w' => e = .returned (.tuple #[.int .i64 (ofK r.mem r.base l l.length).1, .int .i64 (ofK r.mem r.base l l.length).2]) ∧ Below w.heap.size w w' := by
  obtain ⟨⟨ao, n, cap⟩, hlog⟩ : ∃ s, r.log = s := ⟨_, rfl⟩
  rw [hlog] at hl hn
  dsimp only at hl hn
  obtain ⟨W, hW, hbW, hC⟩ := Hd.boxed1 w r
  have HB := Lib.hid hbW
  have HL := Lib.hid (hl.below hbW)
  have HN := Lib.hid hl.len
  have h1 := hl.fits
  have h2 := hl.reach
  unfold Hd.C at hC
  rw [hlog] at hC hW
  dsimp only at hC hW
  obtain ⟨a0, a1, a2, a3, a4, a5, a6⟩ := hC
  have hlt := cell_lt a6
  have lz : ∀ y, Below W.heap.size W y → y.cell? ⟨w.heap.size, 2, none⟩ = some (.int .i64 r.base) ∧ y.cell? ⟨w.heap.size, 4, none⟩ = some (.int .i64 r.mem) ∧ y.cell? ⟨w.heap.size, 6, none⟩ = some (.slice ao n cap) :=
    fun y k => ⟨((bcell k).1 _ _ hlt).trans a2, ((bcell k).1 _ _ hlt).trans a4, ((bcell k).1 _ _ hlt).trans a6⟩
  have LZ := Lib.hid lz
  unfold Hd.val
  rw [hlog]
  dsimp only
  have HS : Hid (ofK r.mem r.base l n = ofK r.mem r.base l l.length) := Lib.hid (by rw [HN.out])
  generalize ofK r.mem r.base l l.length = res at *
  clear hl hlog hbW lz
  go_enter Try.func21, Try.ntmps21
  go_wp2_with fail
  clear a0 a1 a2 a3 a4 a5 a6 hW hlt
  go_loopw [4] (fun i wr => ∃ k : Nat, k ≤ n ∧ i = .int .i64 (((k : Nat) : Int) - 1) ∧ Hid (ofK r.mem r.base l k = res) ∧ Hid (Below W.heap.size W wr)) (fun i _ => ((intOf i) + 1).toNat)
  case atStart => exact ⟨n, Nat.le_refl _, rfl, HS, Lib.hid (Below.refl _ _)⟩
  case round =>
    rename World => wz
    obtain ⟨k, hk, rfl, HK, HBz⟩ := hrel
    obtain ⟨x2, x4, x6⟩ := LZ.out wz HBz.out
    have x2' := cell_regrown x2
    have x4' := cell_regrown x4
    have x6' := cell_regrown x6
    rcases k with _ | k
    · have HX : Hid (res = (r.mem, r.base)) := Lib.hid (by rw [← HK.out]; rfl)
      go_wp2
      refine wp_region_quiet_below (by kernel_rfl) (by kernel_rfl) ?_
      repeat (first | go_big_quiet_step (fail) | quiet_step (fail))
      refine wpQuiet_nil ?_
      intro _ hw'
      obtain ⟨⟨dq, osq⟩, hw''⟩ := hw'
      subst hw''
      have HBv := Lib.hid (bchain HBz.out (below_regrown wz dq osq))
      go_wp2
      go_ret2
      exact ⟨by rw [HX.out]; rfl, bchain HB.out HBv.out⟩
    · have hka : k < l.length := by have := HN.out; omega
      obtain ⟨ga, oa, rfl⟩ := HL.out.at (by omega)
      have hra := (HL.out.row k hka).below HBz.out
      have HE : Hid (l[k]? = some l[k]) := Lib.hid (List.getElem?_eq_getElem hka)
      obtain ⟨x, hx⟩ : ∃ x, l[k] = x := ⟨_, rfl⟩
      rw [hx] at hra HE
      clear hx
      obtain ⟨g0, g1, g2⟩ := hra
      have g1' := cell_regrown g1
      have e0 : ((k : Int) + 1) - 1 = (k : Int) := by omega
      by_cases c2 : x.mem = 0
      · have HX : Hid (ofK r.mem r.base l k = res) := Lib.hid (by rw [← HK.out, ofK_none HE.out c2])
        go_wp2_with fail
        go_roundw
        case rel => exact ⟨k, by omega, by go_num, HX, HBz⟩
        case measure => simp [intOf] <;> omega
      · have HX : Hid (res = (x.mem, wrap64 (r.base + ((k + 1 : Nat) : Int)))) := Lib.hid (by rw [← HK.out, ofK_some HE.out c2])
        go_wp2
        refine wp_region_quiet_below (by kernel_rfl) (by kernel_rfl) ?_
        repeat (first | go_big_quiet_step (fail) | quiet_step (fail))
        refine wpQuiet_nil ?_
        intro _ hw'
        obtain ⟨⟨dq, osq⟩, hw''⟩ := hw'
        subst hw''
        have HBv := Lib.hid (bchain HBz.out (below_regrown wz dq osq))
        go_wp2
        go_ret2
        exact ⟨by rw [HX.out]; rw [← wrap_two]; rfl, bchain HB.out HBv.out⟩
end Go.Proofs.Ytnelakpagjdcdaa.Cf
