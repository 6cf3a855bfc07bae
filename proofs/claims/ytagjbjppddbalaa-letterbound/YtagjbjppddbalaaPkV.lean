/- CONTRACTS OF PACKAGE pack: a Reader: Text, End, Read. -/
import Derived.Test.YtagjbjppddbalaaPkU
namespace Go.Proofs.Ytagjbjppddbalaa
open Go.RowKit
open Go.Sort (grow)
open Mem Pk

/-- bytes as a text -/
def str (bs : List UInt8) : ByteArray := ⟨bs.toArray⟩
theorem strOf (bs : List UInt8) : strOfNums (bs.map fun b => (b.toNat : Int)) = str bs := by
  unfold strOfNums str
  rw [List.map_map]
  have h : bs.map ((fun n : Int => UInt8.ofNat n.toNat) ∘ fun b => (b.toNat : Int)) = bs := by
    conv => rhs; rw [← List.map_id bs]
    apply List.map_congr_left
    intro b _
    simp
  rw [h]
theorem By.Ls.str {w : World} {ao : Option Addr} {n cap : Nat} {bs : List UInt8} (h : By.Ls w ao n cap bs) : (convert 25 9 (.slice ao n cap)).run Try.prog w = .ok (.string (str bs)) w := by
  have hn := h.len
  have empty : bs = [] → n = 0 := fun e => by rw [hn, e]; rfl
  rcases h.seg with e | ⟨b, off, rfl, hc⟩
  · subst e
    obtain rfl := empty rfl
    cases ao with
    | none =>
      rw [run_convert_bytes_nil w 25 5 Try.underlying25 Try.underlying5 0 cap 9 Try.underlying9]
      rfl
    | some a =>
      obtain ⟨b, off, sp⟩ := a
      have hl : (loadCells ⟨b, off, sp⟩ 0).run Try.prog w = .ok #[] w := by simpa using run_loadCells_list (P := Try.prog) w ⟨b, off, sp⟩ [] (by simp)
      rw [run_convert_bytes_string w 25 9 5 _ 0 cap Try.underlying25 Try.underlying5 Try.underlying9, run_bytesToString w _ 0 cap [] (by simpa using hl)]
      rfl
  · have hr := run_convert_bytes_arg (P := Try.prog) w 25 5 Try.underlying25 Try.underlying5 b off n cap (bs.map fun b => (b.toNat : Int)) (by simpa using hn.symm) (fun i hi => by
      rw [hc i (by omega)]
      unfold By.bv
      simp [List.getD, List.getElem?_eq_getElem (show i < bs.length by omega)]) 9 Try.underlying9
    rw [hr, strOf]
/-- reading a text -/
def rText (bs : List UInt8) (most : Int) (s : St) : ByteArray × St := (str ((bs.take ((rCount bs most s).2.at' + (rCount bs most s).1.toNat)).drop (rCount bs most s).2.at'), ⟨(rCount bs most s).2.at' + (rCount bs most s).1.toNat, (rCount bs most s).2.err⟩)
theorem rCount_pos (bs : List UInt8) (hi : Int) (s : St) : 0 ≤ (rCount bs hi s).1 := by
  unfold rCount
  split
  · exact Int.le_refl _
  · exact rWithin_pos bs hi s
theorem rCount_in {bs : List UInt8} {most : Int} {s : St} (h : s.at' ≤ bs.length) : (rCount bs most s).2.at' + (rCount bs most s).1.toNat ≤ bs.length := by
  have hp := rWithin_pos bs most s
  unfold rCount
  split
  · show s.at' + 0 ≤ bs.length
    omega
  · omega
set_option maxHeartbeats 2000000 in
theorem rd_text (p : Nat) (ao : Option Addr) (n cap : Nat) (bs : List UInt8) (most : Int) (s : St) (w : World) (hR : Rd w p ao n cap bs s) :
    Calls Try.prog 49 #[.pointer (some ⟨p, 0, none⟩), .int .i64 most] w fun e w' => e = .returned (.string (rText bs most s).1) ∧ Rd w' p ao n cap bs (rText bs most s).2 ∧ Upd w p w' := by
  have HR := Lib.hid hR
  have hcap := hR.ls.reach
  have hfit := hR.ls.fits
  have HLen := Lib.hid hR.ls.len
  have hin := rCount_in (bs := bs) (most := most) (s := s) (by rw [← hR.ls.len]; exact hR.place)
  have hpos := rCount_pos bs most s
  clear hR
  go_enter Try.func49, Try.ntmps49
  go_wp2_with fail
  refine (rd_count p ao n cap bs most s w HR.out).mono ?_
  rintro e w1 ⟨rfl, hR1, hU1⟩
  obtain ⟨v, s1, hv⟩ : ∃ v s1, rCount bs most s = (v, s1) := ⟨_, _, rfl⟩
  have HT : Hid (rText bs most s = (str ((bs.take (s1.at' + v.toNat)).drop s1.at'), ⟨s1.at' + v.toNat, s1.err⟩)) := Lib.hid (by unfold rText; rw [hv])
  rw [hv] at hR1 hin hpos
  rw [hv]
  dsimp only at hR1 hin hpos ⊢
  obtain ⟨q, rfl⟩ : ∃ q : Nat, v = q := ⟨v.toNat, by omega⟩
  rw [Int.toNat_natCast] at HT hin
  obtain ⟨a1, e1⟩ := s1
  dsimp only at hin HT
  rw [← HLen.out] at hin
  obtain ⟨ao2, cap2, hsl, hL2⟩ := hR1.ls.mid a1 (a1 + q) (by omega) hin
  rw [show ((a1 + q : Nat) : Int) = (a1 : Int) + (q : Int) from by omega, show a1 + q - a1 = q by omega] at hsl
  rw [show a1 + q - a1 = q by omega] at hL2
  have hstr : ∀ (d : Nat) (os : Array Obj), (convert 25 9 (.slice ao2 q cap2)).run Try.prog (grow (redrawn w1 d) os) = .ok (.string (str ((bs.take (a1 + q)).drop a1))) (grow (redrawn w1 d) os) := fun d os => (hL2.below (below_regrown w1 d os)).str
  have k0 := cell_regrown hR1.c0
  have k1 := cell_regrown hR1.c1
  dsimp only at k1
  have HR1 := Lib.hid hR1
  have HU1 := Lib.hid hU1
  obtain ⟨S, hS⟩ : ∃ S, str ((bs.take (a1 + q)).drop a1) = S := ⟨_, rfl⟩
  rw [hS] at hstr HT
  clear hR1 hU1 hv hL2 hpos hS
  go_wp2
  refine wp_region_quiet_below (by kernel_rfl) (by kernel_rfl) ?_
  repeat (first | go_big_quiet_step (fail) | quiet_step (fail))
  refine wpQuiet_nil ?_
  intro _ hw'
  obtain ⟨⟨dq, osq⟩, hw''⟩ := hw'
  subst hw''
  have bq := below_regrown w1 dq osq
  have HRq := Lib.hid (HR1.out.below bq)
  have HUq := Lib.hid (HU1.out.trans (Upd.of p bq))
  clear k0 k1 bq hstr hsl
  generalize grow (redrawn w1 dq) osq = x at *
  have d1 := HRq.out.c1
  have df := HRq.out.fz
  dsimp only at d1
  go_wp2
  go_ret
  refine ⟨by rw [HT.out]; rfl, ?_, HUq.out.trans (Upd.set _)⟩
  rw [HT.out]
  have := HRq.out.at (a1 + q) hin
  simpa using this
/-- the end -/
def rEnd (bs : List UInt8) (s : St) : Int × St := if s.err = 0 ∧ s.at' < bs.length then (5, ⟨s.at', 5⟩) else (s.err, s)
theorem rEnd_tail {bs : List UInt8} {s : St} (h : s.err = 0 ∧ s.at' < bs.length) : rEnd bs s = (5, ⟨s.at', 5⟩) := by unfold rEnd; rw [if_pos h]
theorem rEnd_else {bs : List UInt8} {s : St} (h : ¬ (s.err = 0 ∧ s.at' < bs.length)) : rEnd bs s = (s.err, s) := by unfold rEnd; rw [if_neg h]
set_option maxHeartbeats 2000000 in
theorem rd_end (p : Nat) (ao : Option Addr) (n cap : Nat) (bs : List UInt8) (s : St) (w : World) (hR : Rd w p ao n cap bs s) :
    Calls Try.prog 29 #[.pointer (some ⟨p, 0, none⟩)] w fun e w' => e = .returned (.int .i64 (rEnd bs s).1) ∧ Rd w' p ao n cap bs (rEnd bs s).2 ∧ Upd w p w' := by
  have HR := Lib.hid hR
  have hcap := hR.ls.reach
  have hfit := hR.ls.fits
  have HLen := Lib.hid hR.ls.len
  have hpl := hR.place
  have k0 := cell_regrown hR.c0
  have k1 := cell_regrown hR.c1
  have k2 := cell_regrown hR.c2
  obtain ⟨a, er⟩ := s
  dsimp only at k1 k2 hpl
  clear hR
  by_cases he : er = 0
  · subst he
    by_cases hlt : a < n
    · have HN : Hid (rEnd bs ⟨a, 0⟩ = (5, ⟨a, 5⟩)) := Lib.hid (rEnd_tail ⟨rfl, by rw [← HLen.out]; exact hlt⟩)
      go_enter Try.func29, Try.ntmps29
      go_wp2
      refine wp_region_quiet_below (by kernel_rfl) (by kernel_rfl) ?_
      repeat (first | go_big_quiet_step (fail) | quiet_step (fail))
      refine wpQuiet_nil ?_
      intro _ hw'
      obtain ⟨⟨dq, osq⟩, hw''⟩ := hw'
      subst hw''
      have bq := below_regrown w dq osq
      have HRq := Lib.hid (HR.out.below bq)
      have HUq := Lib.hid (Upd.of p bq)
      clear k0 k1 k2 bq
      generalize grow (redrawn w dq) osq = x at *
      have d2 := HRq.out.c2
      have df := HRq.out.fz
      dsimp only at d2
      go_wp2
      go_ret
      refine ⟨by rw [HN.out]; rfl, ?_, HUq.out.trans (Upd.set _)⟩
      rw [HN.out]
      exact HRq.out.wrong 5
    · have HN : Hid (rEnd bs ⟨a, 0⟩ = (0, ⟨a, 0⟩)) := Lib.hid (rEnd_else (fun h => hlt (by rw [HLen.out]; exact h.2)))
      go_enter Try.func29, Try.ntmps29
      go_wp2
      refine wp_region_quiet_below (by kernel_rfl) (by kernel_rfl) ?_
      repeat (first | go_big_quiet_step (fail) | quiet_step (fail))
      refine wpQuiet_nil ?_
      intro _ hw'
      obtain ⟨⟨dq, osq⟩, hw''⟩ := hw'
      subst hw''
      have bq := below_regrown w dq osq
      have HRq := Lib.hid (HR.out.below bq)
      have HUq := Lib.hid (Upd.of p bq)
      clear k0 k1 k2 bq
      generalize grow (redrawn w dq) osq = x at *
      have d2 := HRq.out.c2
      dsimp only at d2
      go_wp2
      go_ret
      exact ⟨by rw [HN.out]; rfl, by rw [HN.out]; exact HRq.out, HUq.out⟩
  · have HN : Hid (rEnd bs ⟨a, er⟩ = (er, ⟨a, er⟩)) := Lib.hid (rEnd_else (fun h => he h.1))
    have q0 : (er == 0) = false := beq_eq_false_iff_ne.2 he
    go_enter Try.func29, Try.ntmps29
    go_wp2
    refine wp_region_quiet_below (by kernel_rfl) (by kernel_rfl) ?_
    repeat (first | go_big_quiet_step (fail) | quiet_step (fail))
    refine wpQuiet_nil ?_
    intro _ hw'
    obtain ⟨⟨dq, osq⟩, hw''⟩ := hw'
    subst hw''
    have bq := below_regrown w dq osq
    have HRq := Lib.hid (HR.out.below bq)
    have HUq := Lib.hid (Upd.of p bq)
    clear k0 k1 k2 bq
    generalize grow (redrawn w dq) osq = x at *
    have d2 := HRq.out.c2
    dsimp only at d2
    go_wp2
    go_ret
    exact ⟨by rw [HN.out]; rfl, by rw [HN.out]; exact HRq.out, HUq.out⟩
set_option maxHeartbeats 2000000 in
theorem pack_read (bs : List UInt8) (ao : Option Addr) (m cap : Nat) (w : World) (hL : By.Ls w ao m cap bs) (hm : m ≤ 1000000000000) :
    Calls Try.prog 27 #[.slice ao m cap] w fun e w' => (∃ p bo, e = .returned (.pointer (some ⟨p, 0, none⟩)) ∧ w.heap.size ≤ p ∧ Rd w' p bo m m bs ⟨0, 0⟩) ∧ Below w.heap.size w w' := by
  have hmk := By.make m (by omega)
  have hb0 := By.block_made w m
  have hB1 := (Below.refl w.heap.size w).alloc (Nat.le_refl _) (.cells (By.zeros m) 5)
  obtain ⟨W1, hcp, hblk, hbel, hsz⟩ := By.copy (w.alloc (.cells (By.zeros m) 5)) w.heap.size 0 [] [] m ao m cap bs (by simpa using hb0) rfl hL.len (hL.below hB1).seg (some ⟨w.heap.size, 0, none⟩) (fun _ => rfl)
  rw [List.length_nil, Nat.add_zero] at hcp
  rw [List.nil_append, List.append_nil] at hblk
  have HB1 := Lib.hid (hbel _ _ hB1 (Nat.le_refl _))
  have HBk := Lib.hid hblk
  have HLen := Lib.hid hL.len
  have hcap := hL.reach
  have hs1 : W1.heap.size = w.heap.size + 1 := by rw [hsz]; simp
  clear hL hb0 hblk hbel hB1 hsz
  go_enter Try.func27, Try.ntmps27
  go_wp2
  go_ret
  have bx : Below W1.heap.size W1 (W1.alloc (.cells #[.slice (some ⟨w.heap.size, 0, none⟩) m m, .int .i64 0, .int .i64 0] 73)) := (Below.refl _ _).alloc (Nat.le_refl _) _
  have hls := (HBk.out.ls (by rw [← HLen.out]; omega)).below bx
  rw [← HLen.out] at hls
  refine ⟨⟨w.heap.size + 1, some ⟨w.heap.size, 0, none⟩, rfl, by omega, ?_⟩, bchain HB1.out bx⟩
  rw [← hs1]
  exact ⟨by simp [go_sem], by simp [go_sem], by simp [go_sem], fun o => by simp [go_sem], hls, fun b off e => by cases e; omega, by show 0 ≤ m; omega⟩
end Go.Proofs.Ytagjbjppddbalaa
