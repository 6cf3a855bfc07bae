/- CONTRACTS OF PACKAGE series: Open, unshut, clone, Shut, Take, Find. -/
import Derived.Test.YtemifminohdhbaaSsW
namespace Go.Proofs.Ytemifminohdhbaa
open Go.RowKit
open Mem
open Go.Sort (grow)

/-- what Open answers: new memory, or nothing -/
def OpenE (w : World) (rs : List Sr.T) (s : ByteArray) (m : Int) (e : Ending) (w' : World) : Prop := ∃ v, e = .returned (.tuple #[v, .int .i64 (Se.openE rs s m)]) ∧ Sr.Own w' w.heap.size v (Se.openR rs s m) ∧ Below w.heap.size w w'
/-- what Shut answers -/
def ShutE (w : World) (rs : List Sr.T) (s : ByteArray) (e : Ending) (w' : World) : Prop := ∃ v, e = .returned (.tuple #[v, .int .i64 (Se.unE rs s)]) ∧ Sr.Own w' w.heap.size v (Se.shutR rs s) ∧ Below w.heap.size w w'
/-- what Take answers -/
def TakeE (w : World) (rs : List Sr.T) (s : ByteArray) (e : Ending) (w' : World) : Prop := ∃ v, e = .returned (.tuple #[v, .int .i64 (Se.takeN rs s), .int .i64 (Se.takeE rs s)]) ∧ Sr.Own w' w.heap.size v (Se.takeR rs s) ∧ Below w.heap.size w w'
set_option maxHeartbeats 2000000 in
theorem ser_open (rs : List Sr.T) (s : ByteArray) (m : Int) (ao : Option Addr) (n cap : Nat) (w : World) (hR : Sr.Ls w ao n cap rs) (hs : s.size ≤ 140737488355328) :
    Calls Try.prog 8 #[.slice ao n cap, .string s, .int .i64 m] w (OpenE w rs s m) := by
  have HR := Lib.hid hR
  have HN := Lib.hid hR.len
  have HS := Lib.hid hs
  have hcap := hR.reach
  have hfit := hR.fits
  clear hR hs
  go_enter Try.func8, Try.ntmps8
  go_wp2_with fail
  refine (ser_right rs ao n cap _ _ (Below.refl _ _) HR.out).mono ?_
  rintro e w1 ⟨rfl, b1⟩
  have HB1 := Lib.hid b1
  clear b1
  cases hT : Se.rightB rs
  · have HP := Lib.hid (Se.open_arg (s := s) (n := m) hT)
    clear hT
    go_wp2_with fail
    go_ret2
    exact ⟨_, by rw [HP.out.1]; rfl, by rw [HP.out.2]; exact Sr.own_nil _ _, HB1.out⟩
  · have HT := Lib.hid hT
    clear hT
    go_wp2_with fail
    refine (name_gen s _ _ HB1.out HS.out).mono ?_
    rintro e w2 ⟨rfl, b2⟩
    have HB2 := Lib.hid b2
    clear b2
    cases hn : Rn.name (txt s)
    · have HP := Lib.hid (Se.open_name (n := m) HT.out hn)
      clear hn
      go_wp2_with fail
      go_ret2
      exact ⟨_, by rw [HP.out.1]; rfl, by rw [HP.out.2]; exact Sr.own_nil _ _, HB2.out⟩
    · have HNm := Lib.hid hn
      clear hn
      go_wp2_with fail
      refine (ser_limits m _).mono ?_
      rintro e w3 ⟨rfl, rfl⟩
      cases hl : Se.lim m
      · have HP := Lib.hid (Se.open_lim HT.out HNm.out hl)
        clear hl
        go_wp2_with fail
        go_ret2
        exact ⟨_, by rw [HP.out.1]; rfl, by rw [HP.out.2]; exact Sr.own_nil _ _, HB2.out⟩
      · have HLm := Lib.hid hl
        clear hl
        go_wp2_with fail
        refine (ser_index rs s ao n cap _ _ HB2.out (HR.out.below HB2.out)).mono ?_
        rintro e w4 ⟨rfl, b4⟩
        have HB4 := Lib.hid b4
        have HI : Hid (Se.ix s rs ≤ n) := Lib.hid (by have := Se.ix_le s rs; have := HN.out; omega)
        clear b4
        obtain ⟨i, hi⟩ : ∃ i, Se.ix s rs = i := ⟨_, rfl⟩
        have HIx := Lib.hid hi
        rw [hi] at HI
        rw [hi]
        clear hi
        have hin := HI.out
        by_cases hlt : i < n
        · have HP := Lib.hid (Se.open_taken HT.out HNm.out HLm.out (by rw [HIx.out]; exact HN.out ▸ hlt))
          go_wp2_with fail
          go_ret2
          exact ⟨_, by rw [HP.out.1]; rfl, by rw [HP.out.2]; exact Sr.own_nil _ _, HB4.out⟩
        · have HNo : Hid (¬ Se.ix s rs < rs.length) := Lib.hid (by rw [HIx.out]; exact HN.out ▸ hlt)
          by_cases h8 : n = 8
          · have hq : ((n : Int) == 8) = true := beq_iff_eq.2 (by omega)
            have HP := Lib.hid (Se.open_full HT.out HNm.out HLm.out HNo.out (by have := HN.out; omega))
            clear h8
            go_wp2_with fail
            go_ret2
            exact ⟨_, by rw [HP.out.1]; rfl, by rw [HP.out.2]; exact Sr.own_nil _ _, HB4.out⟩
          · have hq : ((n : Int) == 8) = false := beq_eq_false_iff_ne.2 (by omega)
            have HL8 : Hid (n < 8) := Lib.hid (by have h1 := ((Se.right_iff rs).1 HT.out).1; have := HN.out; omega)
            have HP := Lib.hid (Se.open_ok HT.out HNm.out HLm.out HNo.out (by have := HL8.out; have := HN.out; omega))
            clear h8
            go_wp2_with fail
            refine (ser_with rs ao n cap ⟨s, 1, m, false⟩ _ (HR.out.below HB4.out) HL8.out).mono ?_
            rintro e w5 ⟨v, rfl, o5, b5⟩
            have HO := Lib.hid (Sr.own_mono o5 HB4.out.size)
            have HB5 := Lib.hid (bchain HB4.out b5)
            clear o5 b5
            go_wp2_with fail
            go_ret2
            exact ⟨v, by rw [HP.out.1]; rfl, by rw [HP.out.2]; exact HO.out, HB5.out⟩
/-- where a series stands that may be changed, or why none does -/
def unI (rs : List Sr.T) (s : ByteArray) : Int := if Se.unE rs s = 0 then (Se.ix s rs : Nat) else 0
set_option maxHeartbeats 2000000 in
theorem ser_unshut (rs : List Sr.T) (s : ByteArray) (ao : Option Addr) (n cap : Nat) (w0 w : World) (hw : Below w0.heap.size w0 w) (hR : Sr.Ls w ao n cap rs) :
    Calls Try.prog 26 #[.slice ao n cap, .string s] w fun e w' => e = .returned (.tuple #[.int .i64 (unI rs s), .int .i64 (Se.unE rs s)]) ∧ Below w0.heap.size w0 w' := by
  have HW := Lib.hid hw
  have HR := Lib.hid hR
  have HN := Lib.hid hR.len
  have hcap := hR.reach
  have hfit := hR.fits
  clear hR hw
  go_enter Try.func26, Try.ntmps26
  go_wp2_with fail
  refine (ser_right rs ao n cap _ _ (Below.refl _ _) HR.out).mono ?_
  rintro e w1 ⟨rfl, b1⟩
  have HB1 := Lib.hid b1
  clear b1
  cases hT : Se.rightB rs
  · have HP := Lib.hid (Se.un_arg (s := s) hT)
    clear hT
    go_wp2_with fail
    go_ret2
    exact ⟨by unfold unI; rw [HP.out]; rfl, bchain HW.out HB1.out⟩
  · have HT := Lib.hid hT
    clear hT
    go_wp2_with fail
    refine (ser_index rs s ao n cap _ _ HB1.out (HR.out.below HB1.out)).mono ?_
    rintro e w2 ⟨rfl, b2⟩
    have HB2 := Lib.hid b2
    have HI : Hid (Se.ix s rs ≤ n) := Lib.hid (by have := Se.ix_le s rs; have := HN.out; omega)
    clear b2
    by_cases hlt : Se.ix s rs < rs.length
    · have hO := Se.own_at hlt
      have HLt := Lib.hid hlt
      have hrow0 : 0 < n := by have := HN.out; omega
      obtain ⟨b, off, rfl⟩ := HR.out.at hrow0
      have hrow := (HR.out.row (Se.ix s rs) hlt).below HB2.out
      rw [← hO] at hrow
      obtain ⟨r, hr⟩ : ∃ r, Se.own rs s = r := ⟨_, rfl⟩
      have HRr := Lib.hid hr
      rw [hr] at hrow
      clear hO hr
      have hin : Se.ix s rs < n := by have := HN.out; omega
      clear hlt
      obtain ⟨i, hi⟩ : ∃ i, Se.ix s rs = i := ⟨_, rfl⟩
      have HIx := Lib.hid hi
      rw [hi] at hrow hin
      rw [hi]
      clear hi HI
      obtain ⟨g0, g1, g2, g3⟩ := hrow
      have hq : ((i : Int) == (n : Int)) = false := beq_eq_false_iff_ne.2 (by omega)
      cases hsh : r.shut
      · rw [hsh] at g3
        have HP := Lib.hid (Se.un_ok HT.out HLt.out (by rw [HRr.out]; exact hsh))
        clear hsh
        go_wp2_with fail
        go_ret2
        exact ⟨by unfold unI; rw [HP.out, HIx.out]; rfl, bchain HW.out HB2.out⟩
      · rw [hsh] at g3
        have HP := Lib.hid (Se.un_shut HT.out HLt.out (by rw [HRr.out]; exact hsh))
        clear hsh
        go_wp2_with fail
        go_ret2
        exact ⟨by unfold unI; rw [HP.out]; rfl, bchain HW.out HB2.out⟩
    · have HP := Lib.hid (Se.un_none HT.out hlt)
      have HIx : Hid (Se.ix s rs = n) := Lib.hid (by have := Se.ix_le s rs; have := HN.out; omega)
      rw [HIx.out]
      have hq : ((n : Int) == (n : Int)) = true := beq_self_eq_true _
      clear hlt
      go_wp2_with fail
      go_ret2
      exact ⟨by unfold unI; rw [HP.out]; rfl, bchain HW.out HB2.out⟩
set_option maxHeartbeats 2000000 in
theorem ser_clone (rs : List Sr.T) (ao : Option Addr) (n cap : Nat) (w : World) (hR : Sr.Ls w ao n cap rs) (hn : n ≤ 1000) :
    Calls Try.prog 27 #[.slice ao n cap] w fun e w' => e = .returned (.slice (some ⟨w.heap.size, 0, none⟩) n n) ∧ Sr.Block w' w.heap.size rs ∧ Below w.heap.size w w' := by
  have HR := Lib.hid hR
  have hcap := hR.reach
  have hfit := hR.fits
  have hmk := Sr.make n (by omega)
  have hblk0 := Sr.block_made w n
  have hbel0 : Below w.heap.size w (w.alloc (.cells (Sr.zeros n) 32)) := (Below.refl _ _).alloc (Nat.le_refl _) _
  obtain ⟨W1, hcp, hblk, hbel, hsz⟩ := Sr.copy (w.alloc (.cells (Sr.zeros n) 32)) w.heap.size [] n ao n cap rs (by rw [List.append_nil]; exact hblk0) hR.len ((hR.below hbel0).seg)
  rw [List.length_nil, Nat.add_zero] at hcp
  rw [List.append_nil] at hblk
  have HB1 := Lib.hid (hbel _ _ hbel0 (Nat.le_refl _))
  have HBk := Lib.hid hblk
  clear hblk hbel hblk0 hbel0 hR
  go_enter Try.func27, Try.ntmps27
  go_wp2
  go_ret
  exact ⟨rfl, HBk.out, HB1.out⟩
end Go.Proofs.Ytemifminohdhbaa
