/- DiskArms walked. -/
import Derived.Test.YtdihfpenjbgniaaDkG
set_option maxRecDepth 100000
set_option linter.unusedVariables false
namespace Go.Proofs.Ytdihfpenjbgniaa
open Go.RowKit
open Mem Dk

theorem Dk.ints_nil (w : World) : Ints w none 0 0 [] := ⟨rfl, Nat.le_refl _, by omega, .inl rfl, fun z hz => by cases hz⟩
section
variable {w wr : World} {p k i : Nat} {x : Sl}
theorem Dk.arm_yes (h : ArmI w p k i x wr) (h20 : k ≤ 20) (hik : i < k) {ao : Option Addr} {n cap : Nat} {xs : List UInt8} (hL : By.Ls w ao n cap xs) (hn : n ≤ 50) :
    Calls Try.prog 12 #[.pointer (some ⟨p, 0, none⟩), .string ⟨#[102]⟩, .slice ao n cap] wr fun e w' =>
      e = .returned (.int .i64 0) ∧ ∃ (P : Nat → Prop) (d : D) (bs : List UInt8), S P w w' p d ∧ d.off = false ∧ (∀ b, P b → b < w'.heap.size) ∧ By.Own w' 0 (sl x) bs ∧ (∀ g, (sl x).ownBlock = some g → ¬ P g ∧ w.heap.size ≤ g) ∧ By.Ls w' ao n cap xs ∧ Armed k (i + 1) d (bs ++ xs) ∧ bs.length ≤ 1500 := by
  refine (arm_call h h20 (by omega) hL hn).mono ?_
  rintro e w' ⟨P, d, bs, a1, a2, a3, a4, a5, ⟨_, b1, b2, b3, b4⟩ | ⟨b0, _⟩⟩
  · exact ⟨b1, P, d, bs, a1, b2, a2, a3, a4, a5, b3, b4⟩
  · exact absurd hik b0
theorem Dk.arm_no (h : ArmI w p k i x wr) (h20 : k ≤ 20) (hi : i < 30) (hik : ¬ i < k) {ao : Option Addr} {n cap : Nat} {xs : List UInt8} (hL : By.Ls w ao n cap xs) (hn : n ≤ 50) :
    Calls Try.prog 12 #[.pointer (some ⟨p, 0, none⟩), .string ⟨#[102]⟩, .slice ao n cap] wr fun e w' =>
      e = .returned (.int .i64 18) ∧ ∃ (P : Nat → Prop) (d : D) (bs : List UInt8), S P w w' p d ∧ d.off = true ∧ By.Own w' 0 (sl x) bs ∧ (∀ g, (sl x).ownBlock = some g → ¬ P g ∧ w.heap.size ≤ g) ∧ Armed k (i + 1) d bs := by
  refine (arm_call h h20 hi hL hn).mono ?_
  rintro e w' ⟨P, d, bs, a1, a2, a3, a4, a5, ⟨b0, _⟩ | ⟨_, b1, b2, b3⟩⟩
  · exact absurd b0 hik
  · exact ⟨b1, P, d, bs, a1, b2, a3, a4, b3⟩
theorem Dk.arm_fin {P : Nat → Prop} {d : D} {bs xs : List UInt8} (hS : S P w wr p d) (hP : ∀ b, P b → b < wr.heap.size) (hG : ∀ g, (sl x).ownBlock = some g → ¬ P g ∧ w.heap.size ≤ g) (hA' : Armed k i d (bs ++ xs)) (v' : Value) (w5 : World) (o : By.Own w5 0 v' (bs ++ xs)) (gr : wr.grownBy w5 (sl x).ownBlock) (at1 : v'.ownBlock = (sl x).ownBlock ∨ v'.ownBlock = some wr.heap.size) : ∃ x', v' = sl x' ∧ ArmI w p k i x' w5 := by
  obtain ⟨x', rfl⟩ := By.own_sl o
  refine ⟨x', rfl, P, d, bs ++ xs, hS.keep (UpdQ.grown gr) (fun b z e => (hG b e).1 z) (fun b e => (hG b e).2), hA', o, fun g e => ?_⟩
  rcases at1 with at1 | at1
  · exact hG g (at1 ▸ e)
  · rw [at1] at e
    obtain rfl : wr.heap.size = g := by injection e
    exact ⟨fun z => Nat.lt_irrefl _ (hP _ z), hS.bel.size⟩
theorem Dk.arm_read {P : Nat → Prop} {d : D} {bs : List UInt8} (h : S P w wr p d) (hA : Armed k i d bs) : Calls Try.prog 23 #[.pointer (some ⟨p, 0, none⟩), .string ⟨#[102]⟩] wr fun e w' => ∃ (ao : Option Addr) (n cap : Nat) (b : Bool), e = .returned (.tuple #[.slice ao n cap, .bool b]) ∧ By.Ls w' ao n cap bs ∧ Below wr.heap.size wr w' := by
  refine (s_read h nf).mono ?_
  rintro e w' ⟨b6, h6⟩
  have hl : bs.length ≤ 9223372036854775807 ∨ True := .inr trivial
  rcases hA.fs with ⟨e1, rfl⟩ | e1
  · rcases h6 with ⟨_, rfl⟩ | ⟨h6, _⟩
    · exact ⟨none, 0, 0, false, rfl, By.ls_nil _, b6⟩
    · rw [e1] at h6
      cases h6
  · rcases h6 with ⟨h6, _⟩ | ⟨_, g, rfl, hb, _⟩
    · rw [e1, show has nf _ = true from one_has _ _ _] at h6
      cases h6
    · have ho : Dk.own nf d.fs = ⟨nf, bs, 0⟩ := by rw [e1]; exact one_own _ _ _
      simp only [ho] at hb ⊢
      obtain ⟨v, L, rs, hat⟩ := h.dsk
      have h1 := hat.ok.room
      have h2 : total d.fs = bs.length + 0 := by rw [e1]; rfl
      exact ⟨_, _, _, _, rfl, hb.ls (by omega), b6⟩
theorem Dk.crash_read {P : Nat → Prop} {d : D} (h : S P w wr p d) (hA : (d.fs = [] ∨ d.fs = [⟨nf, [], 0⟩]) ∧ d.off = false ∧ d.left = -1) : Calls Try.prog 23 #[.pointer (some ⟨p, 0, none⟩), .string ⟨#[102]⟩] wr fun e w' => ∃ (ao : Option Addr) (cap : Nat) (b : Bool), e = .returned (.tuple #[.slice ao 0 cap, .bool b]) ∧ Below wr.heap.size wr w' := by
  refine (s_read h nf).mono ?_
  rintro e w' ⟨b6, h6⟩
  rcases h6 with ⟨_, rfl⟩ | ⟨h6, g, rfl, _, _⟩
  · exact ⟨none, 0, false, rfl, b6⟩
  · rcases hA.1 with e1 | e1
    · rw [e1] at h6
      cases h6
    · have ho : Dk.own nf d.fs = ⟨nf, [], 0⟩ := by rw [e1]; exact one_own _ _ _
      simp only [ho, List.length_nil]
      exact ⟨_, _, _, rfl, b6⟩
theorem Dk.crash_off {P : Nat → Prop} {d : D} (h : S P w wr p d) (hA : (d.fs = [] ∨ d.fs = [⟨nf, [], 0⟩]) ∧ d.off = false ∧ d.left = -1) : Calls Try.prog 17 #[.pointer (some ⟨p, 0, none⟩)] wr fun e w' => e = .returned (.bool false) ∧ w' = wr := by
  have := s_off h
  rw [hA.2.1] at this
  exact this
theorem Dk.crash_app {P : Nat → Prop} {d : D} (h : S P w wr p d) (hA : (d.fs = [] ∨ d.fs = [⟨nf, [], 0⟩]) ∧ d.off = false ∧ d.left = -1) : Calls Try.prog 12 #[.pointer (some ⟨p, 0, none⟩), .string ⟨#[103]⟩, .slice none 0 0] wr fun e w' => e = .returned (.int .i64 0) ∧ Below w.heap.size w w' := by
  have few : d.fs.length < 1000 := by
    rcases hA.1 with e1 | e1
    · rw [e1]
      decide
    · rw [e1]
      show (1 : Nat) < 1000
      decide
  refine (s_append h ng (by decide) none 0 0 [] (By.ls_nil _) (fun z => absurd rfl z) few).mono ?_
  rintro e w' ⟨rfl, h2, _⟩
  rw [armed_g hA]
  exact ⟨rfl, h2.bel⟩
end
set_option maxHeartbeats 4000000 in
theorem diskArms_walk (a0 : Int) (ps : List (Sl × List UInt8)) (a1 : Option Addr) (n1 cap1 : Nat) (w : World) (hf : Fit a0) (hL : Bb.Ls w a1 n1 cap1 ps) :
    Calls Try.prog 6 #[.int .i64 a0, .slice a1 n1 cap1] w fun e w' => e = .returned (.bool true) ∧ Below w.heap.size w w' := by
  have HL := Lib.hid hL
  have hcap := hL.reach
  have hfit := hL.fits
  have HW := Lib.hid fun W => bookWithin_any a0 0 20 W hf (by omega) (by omega) (by omega)
  clear hL
  go_enter Try.func6, Try.ntmps6
  go_wp2_with (go_at_call 9; refine (s_new w).mono ?_; rintro e W1 ⟨p, rfl, h1⟩; have H1 := Lib.hid h1; clear h1)
  refine (HW.out _).mono ?_
  rintro e W2 ⟨⟨k, rfl, hr0, hr1⟩, hw2⟩
  subst hw2
  have h20 : k ≤ 20 := by omega
  have C1 := Lib.hid (s_arm H1.out (k : Int) ⟨by omega, by omega⟩)
  go_wp2_with (go_at_call 16; refine C1.out.mono ?_)
  rintro e W3 ⟨rfl, h3, -⟩
  have HI : Hid (ArmI w p k 0 ⟨none, 0, 0⟩ W3) := Lib.hid ⟨_, _, [], h3, armed_new k, By.own_nil _ _, fun g e => by cases e⟩
  clear h3 C1 H1 hr0 hr1
  go_wp2_with fail
  go_loopw [7, 8, 9, 10] (fun al i _ _ wr => ∃ (j : Nat) (x : Sl), j ≤ 30 ∧ i = .int .i64 j ∧ al = .slice x.ao x.n x.cap ∧ Hid (ArmI w p k j x wr)) (fun _ i _ _ _ => 31 - (intOf i).toNat)
  case atStart => exact ⟨0, ⟨none, 0, 0⟩, by omega, rfl, rfl, HI⟩
  case round =>
    rename World => wz
    obtain ⟨j, x, hj, rfl, rfl, HA⟩ := hrel
    clear HI
    by_cases hl1 : j < n1
    · by_cases hl2 : j < 30
      · have HBz : Hid (Below w.heap.size w wz) := Lib.hid (by obtain ⟨_, _, _, hS, _⟩ := HA.out; exact hS.bel)
        obtain ⟨b, off, s, xs, rfl, c0, hs, hsm⟩ := part_of HL.out HBz.out hl1
        have HS := Lib.hid hs
        clear hs
        by_cases h50 : 50 < s.n
        · obtain ⟨hcut, hs2⟩ := HS.out.to 50 (by omega)
          have h50' : (50 : Int) < (s.n : Int) := by omega
          have hcut' : ∀ u, (Instr.slice 25 (.slice s.ao s.n s.cap) none (some (.int .i64 50)) none).run Try.prog u = .ok (.slice s.ao 50 s.cap) u := hcut
          clear hcut
          by_cases hik : j < k
          · have C := Lib.hid (arm_yes HA.out h20 hik hs2 (by omega))
            have hik' : (j : Int) < (k : Int) := by omega
            go_wp2_with (first | (go_at_call 12; refine C.out.mono ?_; rintro e W4 ⟨rfl, P, d, bs, hS, hoff, hP, hO, hG, hLs, hA', hbl⟩; have CO := Lib.hid (s_off hS); rw [hoff] at CO; have HO4 := Lib.hid hO; have HLs := Lib.hid hLs; have HFin := Lib.hid (arm_fin hS hP hG hA'); have hbl' : bs.length + 50 ≤ 140737488355328 := (by omega); clear hS hoff hP hO hG hLs hA' C HA HBz) | (go_at_call 17; refine CO.out.mono ?_; rintro e u ⟨rfl, hu⟩; rw [hu]; clear hu u) | (at_builtin; go_must (refine By.wpList_append _ rfl (.tmp 70) (.tmp 71) rfl 0 (sl x) bs rfl HO4.out s.ao 50 s.cap (xs.take 50) rfl HLs.out.len HLs.out.nil HLs.out.seg hbl' (Nat.zero_le _) ?_)))
            intro v' w5 o1 gr1 at1
            obtain ⟨x', rfl, hI'⟩ := HFin.out v' w5 o1 gr1 at1
            have HI' := Lib.hid hI'
            clear o1 gr1 at1 hI' HFin CO HO4 HLs
            unfold sl
            go_wp2_with fail
            go_roundw
            case rel => exact ⟨j + 1, x', by omega, by go_num, rfl, HI'⟩
            case measure => simp [intOf]; omega
          · have C := Lib.hid (arm_no HA.out h20 hl2 hik hs2 (by omega))
            have hik' : ¬ (j : Int) < (k : Int) := by omega
            go_wp2_with (first | (go_at_call 12; refine C.out.mono ?_; rintro e W4 ⟨rfl, P, d, bs, hS, hoff, hO, hG, hA'⟩; have CO := Lib.hid (s_off hS); rw [hoff] at CO; have HI' : Hid (ArmI w p k (j + 1) x W4) := Lib.hid ⟨P, d, bs, hS, hA', hO, hG⟩; clear hS hoff hO hG hA' C HA HBz) | (go_at_call 17; refine CO.out.mono ?_; rintro e u ⟨rfl, hu⟩; rw [hu]; clear hu u))
            go_roundw
            case rel => exact ⟨j + 1, x, by omega, by go_num, rfl, HI'⟩
            case measure => simp [intOf]; omega
        · have h50' : ¬ (50 : Int) < (s.n : Int) := by omega
          by_cases hik : j < k
          · have C := Lib.hid (arm_yes HA.out h20 hik HS.out (by omega))
            have hik' : (j : Int) < (k : Int) := by omega
            go_wp2_with (first | (go_at_call 12; refine C.out.mono ?_; rintro e W4 ⟨rfl, P, d, bs, hS, hoff, hP, hO, hG, hLs, hA', hbl⟩; have CO := Lib.hid (s_off hS); rw [hoff] at CO; have HO4 := Lib.hid hO; have HLs := Lib.hid hLs; have HFin := Lib.hid (arm_fin hS hP hG hA'); have hbl' : bs.length + s.n ≤ 140737488355328 := (by omega); clear hS hoff hP hO hG hLs hA' C HA HBz) | (go_at_call 17; refine CO.out.mono ?_; rintro e u ⟨rfl, hu⟩; rw [hu]; clear hu u) | (at_builtin; go_must (refine By.wpList_append _ rfl (.tmp 70) (.tmp 71) rfl 0 (sl x) bs rfl HO4.out s.ao s.n s.cap xs rfl HLs.out.len HLs.out.nil HLs.out.seg hbl' (Nat.zero_le _) ?_)))
            intro v' w5 o1 gr1 at1
            obtain ⟨x', rfl, hI'⟩ := HFin.out v' w5 o1 gr1 at1
            have HI' := Lib.hid hI'
            clear o1 gr1 at1 hI' HFin CO HO4 HLs
            unfold sl
            go_wp2_with fail
            go_roundw
            case rel => exact ⟨j + 1, x', by omega, by go_num, rfl, HI'⟩
            case measure => simp [intOf]; omega
          · have C := Lib.hid (arm_no HA.out h20 hl2 hik HS.out (by omega))
            have hik' : ¬ (j : Int) < (k : Int) := by omega
            go_wp2_with (first | (go_at_call 12; refine C.out.mono ?_; rintro e W4 ⟨rfl, P, d, bs, hS, hoff, hO, hG, hA'⟩; have CO := Lib.hid (s_off hS); rw [hoff] at CO; have HI' : Hid (ArmI w p k (j + 1) x W4) := Lib.hid ⟨P, d, bs, hS, hA', hO, hG⟩; clear hS hoff hO hG hA' C HA HBz) | (go_at_call 17; refine CO.out.mono ?_; rintro e u ⟨rfl, hu⟩; rw [hu]; clear hu u))
            go_roundw
            case rel => exact ⟨j + 1, x, by omega, by go_num, rfl, HI'⟩
            case measure => simp [intOf]; omega
      · obtain rfl : j = 30 := by omega
        obtain ⟨P, d, bs, hS, hA, hO, hG⟩ := HA.out
        obtain ⟨ao, cap, ex, hLx, -⟩ := By.own_ls hO
        have HLx := Lib.hid hLx
        unfold sl at ex
        rw [ex]
        have HS := Lib.hid hS
        have HAr := Lib.hid hA
        have HAc := Lib.hid (armed_crash hA)
        have CR := Lib.hid (arm_read hS hA)
        clear hS hA hO hG HA ex hLx
        go_wp2_with (go_at_call 23; refine CR.out.mono ?_)
        rintro e W6 ⟨bo, bn, bc, bb, rfl, hLb, b6⟩
        have HLb := Lib.hid hLb
        have CS := Lib.hid (By.same_any bs bs _ _ _ _ _ _ W6 hLb (HLx.out.below b6))
        rw [decide_eq_true rfl] at CS
        have H6 := Lib.hid (HS.out.later b6)
        clear hLb b6 CR HS HLx
        go_wp2_with (first | (go_at_call 10; refine CS.out.mono ?_; rintro e W7 ⟨rfl, b7⟩; have H7 := Lib.hid (H6.out.later b7); have CC := Lib.hid (s_crash H7.out none 0 0 [] (ints_nil W7) (fun h => absurd rfl h)); clear b7 CS H6) | (go_at_call 22; refine CC.out.mono ?_; rintro e W8 ⟨rfl, h8, -⟩; have H8 := Lib.hid h8; have CR8 := Lib.hid (crash_read H8.out HAc.out); clear h8 CC) | (go_at_call 23; refine CR8.out.mono ?_; rintro e W9 ⟨co, cc, cb, rfl, b9⟩; have H9 := Lib.hid (H8.out.later b9); have CO9 := Lib.hid (crash_off H9.out HAc.out); have CA9 := Lib.hid (crash_app H9.out HAc.out); clear b9 CR8) | (go_at_call 17; refine CO9.out.mono ?_; rintro e u ⟨rfl, hu⟩; rw [hu]; clear hu u CO9) | (go_at_call 12; refine CA9.out.mono ?_; rintro e Wa ⟨rfl, ba⟩; have HBa := Lib.hid ba; clear ba CA9) | (go_at_call 3; refine (diskRuns_walk _).mono ?_; rintro e Wb ⟨rfl, bb'⟩; have HBb := Lib.hid (bchain HBa.out bb'); clear bb'))
        go_ret
        exact ⟨rfl, HBb.out⟩
    · obtain ⟨P, d, bs, hS, hA, hO, hG⟩ := HA.out
      obtain ⟨ao, cap, ex, hLx, -⟩ := By.own_ls hO
      have HLx := Lib.hid hLx
      unfold sl at ex
      rw [ex]
      have HS := Lib.hid hS
      have HAr := Lib.hid hA
      have HAc := Lib.hid (armed_crash hA)
      have CR := Lib.hid (arm_read hS hA)
      clear hS hA hO hG HA ex hLx
      go_wp2_with (go_at_call 23; refine CR.out.mono ?_)
      rintro e W6 ⟨bo, bn, bc, bb, rfl, hLb, b6⟩
      have HLb := Lib.hid hLb
      have CS := Lib.hid (By.same_any bs bs _ _ _ _ _ _ W6 hLb (HLx.out.below b6))
      rw [decide_eq_true rfl] at CS
      have H6 := Lib.hid (HS.out.later b6)
      clear hLb b6 CR HS HLx
      go_wp2_with (first | (go_at_call 10; refine CS.out.mono ?_; rintro e W7 ⟨rfl, b7⟩; have H7 := Lib.hid (H6.out.later b7); have CC := Lib.hid (s_crash H7.out none 0 0 [] (ints_nil W7) (fun h => absurd rfl h)); clear b7 CS H6) | (go_at_call 22; refine CC.out.mono ?_; rintro e W8 ⟨rfl, h8, -⟩; have H8 := Lib.hid h8; have CR8 := Lib.hid (crash_read H8.out HAc.out); clear h8 CC) | (go_at_call 23; refine CR8.out.mono ?_; rintro e W9 ⟨co, cc, cb, rfl, b9⟩; have H9 := Lib.hid (H8.out.later b9); have CO9 := Lib.hid (crash_off H9.out HAc.out); have CA9 := Lib.hid (crash_app H9.out HAc.out); clear b9 CR8) | (go_at_call 17; refine CO9.out.mono ?_; rintro e u ⟨rfl, hu⟩; rw [hu]; clear hu u CO9) | (go_at_call 12; refine CA9.out.mono ?_; rintro e Wa ⟨rfl, ba⟩; have HBa := Lib.hid ba; clear ba CA9) | (go_at_call 3; refine (diskRuns_walk _).mono ?_; rintro e Wb ⟨rfl, bb'⟩; have HBb := Lib.hid (bchain HBa.out bb'); clear bb'))
      go_ret
      exact ⟨rfl, HBb.out⟩
end Go.Proofs.Ytdihfpenjbgniaa
