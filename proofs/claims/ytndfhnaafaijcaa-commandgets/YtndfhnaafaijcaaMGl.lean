/- MERGED: CdSe, CdG. (By mg.py.) -/
import Derived.Test.YtndfhnaafaijcaaMGe
import Derived.Test.YtndfhnaafaijcaaMGj
import Derived.Test.YtndfhnaafaijcaaMGk
/- CONTRACTS OF PACKAGE command: read. (By genread9.py.) -/
set_option linter.unusedVariables false
set_option maxRecDepth 100000
namespace Go.Proofs.Ytndfhnaafaijcaa
open Go.RowKit
open Mem Pk Cm
set_option maxHeartbeats 8000000 in
theorem read_0 (p : Nat) (ao : Option Addr) (n cap : Nat) (bs : List UInt8) (s : St) (k : Int) (w : World) (hR : Rd w p ao n cap bs s) (hbs : bs.length ≤ 1000000) (hk : Fit k) (hno : ¬ (1 ≤ k ∧ k ≤ 8)) :
    Calls Try.prog 36 #[.pointer (some ⟨p, 0, none⟩), .int .i64 k] w (ReadE p ao n cap bs (({ S.zero with kind := k }, s)) w) := by
  have hlt := cell_lt hR.c0
  have HR0 := Lib.hid hR
  have HBs := Lib.hid hbs
  have hb0 : Below w.heap.size w ((w.alloc (.cells #[.int .i64 0, .string .empty, .int .i64 0, .string .empty, .int .i64 0, .int .i64 0, .int .i64 0, .int .i64 0, .int .i64 0, .int .i64 0, .int .i64 0, .slice none 0 0, .string .empty, .int .i64 0, .int .i64 0] 37)).alloc (.cells #[.int .i64 k, .string .empty, .int .i64 0, .string .empty, .int .i64 0, .int .i64 0, .int .i64 0, .int .i64 0, .int .i64 0, .int .i64 0, .int .i64 0, .slice none 0 0, .string .empty, .int .i64 0, .int .i64 0] 37)) := below_box (below_box (Below.refl _ _) _) _
  have HB0 := Lib.hid hb0
  have HR := Lib.hid (hR.below hb0)
  have HOff := Lib.hid (hR.off (Nat.le_succ _))
  have HA0 : Hid (Cm.Blk ((w.alloc (.cells #[.int .i64 0, .string .empty, .int .i64 0, .string .empty, .int .i64 0, .int .i64 0, .int .i64 0, .int .i64 0, .int .i64 0, .int .i64 0, .int .i64 0, .slice none 0 0, .string .empty, .int .i64 0, .int .i64 0] 37)).alloc (.cells #[.int .i64 k, .string .empty, .int .i64 0, .string .empty, .int .i64 0, .int .i64 0, .int .i64 0, .int .i64 0, .int .i64 0, .int .i64 0, .int .i64 0, .slice none 0 0, .string .empty, .int .i64 0, .int .i64 0] 37)) w.heap.size Cm.T.zero) := Lib.hid (heap_old (heap_alloc_new w _))
  have HC0 : Hid (Cm.Blk ((w.alloc (.cells #[.int .i64 0, .string .empty, .int .i64 0, .string .empty, .int .i64 0, .int .i64 0, .int .i64 0, .int .i64 0, .int .i64 0, .int .i64 0, .int .i64 0, .slice none 0 0, .string .empty, .int .i64 0, .int .i64 0] 37)).alloc (.cells #[.int .i64 k, .string .empty, .int .i64 0, .string .empty, .int .i64 0, .int .i64 0, .int .i64 0, .int .i64 0, .int .i64 0, .int .i64 0, .int .i64 0, .slice none 0 0, .string .empty, .int .i64 0, .int .i64 0] 37)) (w.heap.size + 1) { Cm.T.zero with kind := k }) := Lib.hid (Mem.heap_next w _ _)
  have hn0 : w.heap.size ≠ p := by omega
  have hn1 : w.heap.size + 1 ≠ p := by omega
  have hn01 : w.heap.size ≠ w.heap.size + 1 := by omega
  have k1 : (k == 1) = false := beq_eq_false_iff_ne.2 (by omega)
  have k2 : (k == 2) = false := beq_eq_false_iff_ne.2 (by omega)
  have k8 : (k == 8) = false := beq_eq_false_iff_ne.2 (by omega)
  have k3 : (k == 3) = false := beq_eq_false_iff_ne.2 (by omega)
  have k4 : (k == 4) = false := beq_eq_false_iff_ne.2 (by omega)
  have k5 : (k == 5) = false := beq_eq_false_iff_ne.2 (by omega)
  have k7 : (k == 7) = false := beq_eq_false_iff_ne.2 (by omega)
  clear hR hb0 hbs
  go_enter Try.func36, Try.ntmps36
  go_wp2_with (first | (with_reducible apply Cm.wpl_load; rfl; rfl; kernel_rfl; exact Cm.heap_second _ _ _; rfl) | (with_reducible apply Cm.wpl_store; rfl; rfl; kernel_rfl; exact Cm.size_one _ _; kernel_rfl; rfl; rfl; rfl) | (with_reducible apply Cm.wpl_store_mid; rfl; rfl; kernel_rfl; rfl; kernel_rfl; rfl; rfl; rfl))
  refine bodyPost_ret (Cm.results_row Try.results36 rfl (Cm.heap_next _ _ _) rfl) rfl ?_
  exact ⟨⟨{ Cm.T.zero with kind := k }, rfl, Cm.in_of (fitS empty_size empty_size empty_size fit0 fit0 fit0 fit0 fit0 fit0 fit0 fit0 fit0 fit0 (fun _ h => by cases h)) (hk) (Ln.ls_nil _), rfl, Nat.zero_le _⟩, HR0.out.below (below_box (below_box (Below.refl _ _) _) _), Upd.of p (below_box (below_box (Below.refl _ _) _) _)⟩
end Go.Proofs.Ytndfhnaafaijcaa

/- CONTRACTS OF PACKAGE command: read (as a whole), Get. -/
set_option linter.unusedVariables false
namespace Go.Proofs.Ytndfhnaafaijcaa
open Go.RowKit
open Mem Pk Cm

theorem read_any (p : Nat) (ao : Option Addr) (n cap : Nat) (bs : List UInt8) (s : St) (k : Int) (w : World) (hR : Rd w p ao n cap bs s) (hbs : bs.length ≤ 1000000) (hk : Fit k) :
    Calls Try.prog 36 #[.pointer (some ⟨p, 0, none⟩), .int .i64 k] w (ReadE p ao n cap bs (rRead bs k s) w) := by
  by_cases h : 1 ≤ k ∧ k ≤ 8
  · rcases kinds h.1 h.2 with rfl | rfl | rfl | rfl | rfl | rfl | rfl | rfl
    · exact read_1 p ao n cap bs s w hR hbs
    · exact read_2 p ao n cap bs s w hR hbs
    · exact read_3 p ao n cap bs s w hR hbs
    · exact read_4 p ao n cap bs s w hR hbs
    · exact read_5 p ao n cap bs s w hR hbs
    · exact read_6 p ao n cap bs s w hR hbs
    · exact read_7 p ao n cap bs s w hR hbs
    · exact read_8 p ao n cap bs s w hR hbs
  · have e : rRead bs k s = ({ S.zero with kind := k }, s) := by
      unfold rRead
      rw [if_neg (by omega), if_neg (by omega), if_neg (by omega), if_neg (by omega), if_neg (by omega), if_neg (by omega), if_neg (by omega), if_neg (by omega)]
    rw [e]
    exact read_0 p ao n cap bs s k w hR hbs hk h
theorem rRead_bare (bs : List UInt8) (k : Int) (s : St) (h : 1 ≤ k ∧ k ≤ 8) : (rRead bs k s).1.bare = (rRead bs k s).1 ∧ (rRead bs k s).1.kind = k := by
  rcases kinds h.1 h.2 with rfl | rfl | rfl | rfl | rfl | rfl | rfl | rfl
  all_goals exact ⟨rfl, rfl⟩
theorem rRead_kind (bs : List UInt8) (k : Int) (s : St) : (rRead bs k s).1.kind = k := by
  by_cases h : 1 ≤ k ∧ k ≤ 8
  · exact (rRead_bare bs k s h).2
  · unfold rRead
    rw [if_neg (by omega), if_neg (by omega), if_neg (by omega), if_neg (by omega), if_neg (by omega), if_neg (by omega), if_neg (by omega), if_neg (by omega)]
/-- what is asked of Get -/
def GetE (bs : List UInt8) (w : World) (e : Ending) (w' : World) : Prop :=
  (∃ v, e = .returned (.tuple #[Cm.cv v, .int .i64 (get bs).2]) ∧ Cm.IsF w' w.heap.size (get bs).1 v) ∧ Below w.heap.size w w'
theorem getE_no {bs : List UInt8} {w w' : World} {x : Int} (h : get bs = (S.zero, x)) (hb : Below w.heap.size w w') : GetE bs w (.returned (.tuple #[Cm.cv .nilIface, .int .i64 x])) w' := by
  unfold GetE
  rw [h]
  exact ⟨⟨_, rfl, .none, fun ad h => by cases h⟩, hb⟩
theorem get_upd {w w1 w2 : World} {p : Nat} (h : Below w.heap.size w w1) (hp : w.heap.size ≤ p) (hu : Upd w1 p w2) : Below w.heap.size w w2 := hu.below w h hp
theorem store_at {u : World} {a : Addr} {x z : Value} (hc : u.cell? a = some x) (hf : u.frozen? a = false) (hz : z.oneCell' = true) : (store a z).run Try.prog u = .ok () (u.setCell a z) := by
  rw [run_store _ _ _ _ _ hz, hc, hf]
  rfl
theorem store_fresh (u : World) (z : Value) (hz : z.oneCell' = true) : (store ⟨u.heap.size, 0, none⟩ z).run Try.prog (u.alloc (.cells #[.nilIface] 25)) = .ok () (u.alloc (.cells #[z] 25)) := by
  rw [store_at (x := .nilIface) (by simp [go_sem]) (by simp [go_sem]) hz]
  simp [go_sem]
set_option maxHeartbeats 8000000 in
theorem get_any (bs : List UInt8) (ao : Option Addr) (m cap : Nat) (w : World) (hL : By.Ls w ao m cap bs) :
    Calls Try.prog 11 #[.slice ao m cap] w (GetE bs w) := by
  have HL := Lib.hid hL
  have HLen := Lib.hid hL.len
  have hcap := hL.reach
  have hfit := hL.fits
  have hb0 : Below w.heap.size w (w.alloc (.cells #[.nilIface] 25)) := below_box (Below.refl _ _) _
  have HB0 := Lib.hid hb0
  have HL0 := Lib.hid (hL.below hb0)
  clear hL hb0
  by_cases hbig : 1024 < m
  · have HG := Lib.hid (get_big (bs := bs) (by rw [← HLen.out]; exact hbig))
    have a1 : (1024 : Int) < (m : Int) := by omega
    go_enter Try.func11, Try.ntmps11
    go_wp2_with fail
    exact bodyPost_ret (v := .tuple #[Cm.cv .nilIface, .int .i64 2]) (by simp [results, Cm.cv, Try.results11, go_sem]) rfl (getE_no HG.out HB0.out)
  · have HSm : Hid (¬ 1024 < bs.length) := Lib.hid (by rw [← HLen.out]; exact hbig)
    have HBs : Hid (bs.length ≤ 1000000) := Lib.hid (by have := HSm.out; omega)
    have a1 : ¬ (1024 : Int) < (m : Int) := by omega
    go_enter Try.func11, Try.ntmps11
    go_wp2_with fail
    refine (pack_read bs ao m cap _ HL0.out (by omega)).mono ?_
    rintro e w1 ⟨⟨p, bo, rfl, hp, hR1⟩, b1⟩
    have hps : w.heap.size + 1 ≤ p := by simpa using hp
    have c1 : w1.cell? ⟨w.heap.size, 0, none⟩ = some .nilIface := by rw [(bcell b1).1 _ _ (by simp)]; simp [go_sem]
    have f1 : w1.frozen? ⟨w.heap.size, 0, none⟩ = false := by rw [(bcell b1).2 _ _ (by simp)]; simp [go_sem]
    have HR1 := Lib.hid hR1
    have HB1 := Lib.hid (bchain HB0.out b1)
    have hwp : w.heap.size ≠ p := by omega
    clear hR1 b1 hp
    go_wp2_with fail
    refine (rd_num p bo m m bs s0 w1 HR1.out).mono ?_
    rintro e w2 ⟨rfl, hR2, hU2⟩
    have c2 : w2.cell? ⟨w.heap.size, 0, none⟩ = some .nilIface := by rw [hU2.cell _ _ (cell_lt c1) hwp]; exact c1
    have f2 : w2.frozen? ⟨w.heap.size, 0, none⟩ = false := by rw [hU2.frozen _ _ (cell_lt c1)]; exact f1
    have HR2 := Lib.hid hR2
    have HB2 := Lib.hid (get_upd HB1.out (by omega) hU2)
    have HKf := Lib.hid (rNum_fit bs s0)
    have HN := Lib.hid (get_num (bs := bs) HSm.out)
    have HKd := Lib.hid (get_kind (bs := bs) HSm.out)
    have HEn := Lib.hid (get_end (bs := bs) HSm.out)
    have HIs := Lib.hid (get_is (bs := bs) HSm.out)
    obtain ⟨k, s1, hk⟩ : ∃ k s1, rNum bs s0 = (k, s1) := ⟨_, _, rfl⟩
    rw [hk] at HR2 HKf HN HKd HEn HIs ⊢
    dsimp only at HR2 HKf HN HKd HEn HIs ⊢
    clear hR2 hU2 c1 f1 hk
    go_wp2_with fail
    refine (rd_err p bo m m bs s1 w2 HR2.out).mono ?_
    rintro e w3 ⟨rfl, rfl⟩
    rename World => w2
    by_cases he : s1.err = 0
    · have q1 : (s1.err != 0) = false := by rw [he]; rfl
      go_wp2_with fail
      refine (read_any p bo m m bs s1 k w2 HR2.out HBs.out HKf.out).mono ?_
      rintro e w3 ⟨⟨c, rfl, hI, hsem, hn⟩, hR3, hU3⟩
      have c3 : w3.cell? ⟨w.heap.size, 0, none⟩ = some .nilIface := by rw [hU3.cell _ _ (cell_lt c2) hwp]; exact c2
      have f3 : w3.frozen? ⟨w.heap.size, 0, none⟩ = false := by rw [hU3.frozen _ _ (cell_lt c2)]; exact f2
      have HI := Lib.hid hI
      have HSem := Lib.hid hsem
      have HR3 := Lib.hid hR3
      have HB3 := Lib.hid (get_upd HB2.out (by omega) hU3)
      have HKind : Hid (c.kind = k) := Lib.hid (by
        have h := congrArg S.kind hsem
        rw [rRead_kind] at h
        exact h)
      have hlt3 := cell_lt c3
      have hp3 := cell_lt hR3.c0
      clear hI hsem hR3 hU3 c2 f2
      go_wp2_with fail
      refine (of_any c _ w3 HI.out (by omega)).mono ?_
      rintro e w4 ⟨⟨v, rfl, hIs⟩, b4⟩
      have c4 : w4.cell? ⟨w.heap.size, 0, none⟩ = some .nilIface := by rw [(bcell b4).1 _ _ (cell_lt c3)]; exact c3
      have f4 : w4.frozen? ⟨w.heap.size, 0, none⟩ = false := by rw [(bcell b4).2 _ _ (cell_lt c3)]; exact f3
      rw [HSem.out] at hIs
      have h1c := hIs.is.oneCell
      have HV := Lib.hid hIs
      have HR4 := Lib.hid (HR3.out.below b4)
      have HB4 := Lib.hid (bchain HB3.out b4)
      rw [HKind.out]
      clear hIs b4 c3 f3
      have hst := store_fresh w4 v h1c
      have hb5 : Below w4.heap.size w4 (w4.alloc (.cells #[v] 25)) := below_box (Below.refl _ _) _
      have HB5 := Lib.hid (bchain HB4.out hb5)
      have HR5 := Lib.hid (HR4.out.below hb5)
      have HV5 := Lib.hid (HV.out.below hb5)
      have c5 : (w4.alloc (.cells #[v] 25)).cell? ⟨w.heap.size, 0, none⟩ = some .nilIface := by rw [(bcell hb5).1 _ _ (cell_lt c4)]; exact c4
      have f5 : (w4.alloc (.cells #[v] 25)).frozen? ⟨w.heap.size, 0, none⟩ = false := by rw [(bcell hb5).2 _ _ (cell_lt c4)]; exact f4
      have hlt4 := cell_lt c4
      clear hb5
      unfold Cm.cv
      by_cases hk8 : 1 ≤ k ∧ k ≤ 8
      · rw [ofE_yes hk8]
        have HK8 := Lib.hid hk8
        clear hk8
        go_wp2_with fail
        clear hst
        refine (rd_end p bo m m bs _ _ HR5.out).mono ?_
        rintro e w6 ⟨rfl, hR6, hU6⟩
        have hp4 := cell_lt HR4.out.c0
        have c6 : w6.cell? ⟨w.heap.size, 0, none⟩ = some .nilIface := by rw [hU6.cell _ _ (by simp; omega) hwp]; exact c5
        have f6 : w6.frozen? ⟨w.heap.size, 0, none⟩ = false := by rw [hU6.frozen _ _ (by simp; omega)]; exact f5
        have d6 : w6.cell? ⟨w4.heap.size, 0, none⟩ = some v := by rw [hU6.cell _ _ (by simp) (by omega)]; simp [go_sem]
        have HB6 := Lib.hid (get_upd HB5.out (by omega) hU6)
        have HV6 : Hid (Cm.IsF (w6.setCell ⟨w.heap.size, 0, none⟩ v) w3.heap.size (rRead bs k s1).1.bare v) := Lib.hid ((HV5.out.upd hU6 hp3).upd (Upd.set _) hlt3)
        clear hR6 hU6 c5 f5
        obtain ⟨x, hx⟩ : ∃ x, (rEnd bs (rRead bs k s1).2).1 = x := ⟨_, rfl⟩
        rw [hx] at HEn HIs ⊢
        clear hx
        by_cases hx0 : x = 0
        · subst hx0
          have HG : Hid (Cm.get bs = ((rRead bs k s1).1, 0)) := Lib.hid (HIs.out he HK8.out rfl)
          have HBr := Lib.hid (rRead_bare bs k s1 HK8.out).1
          have hst6 := store_at c6 f6 h1c
          go_wp2_with fail
          refine bodyPost_ret (v := .tuple #[Cm.cv v, .int .i64 0]) (by simp [results, Cm.cv, Try.results11, go_sem, c6]) rfl ?_
          unfold GetE
          rw [HG.out]
          refine ⟨⟨v, rfl, ?_⟩, bset HB6.out (Nat.le_refl _) _ _⟩
          rw [← HBr.out]
          exact ⟨HV6.out.is, fun ad h => by
            obtain ⟨g, h1, h2⟩ := HV6.out.new ad h
            exact ⟨g, h1, by omega⟩⟩
        · have q2 : (x != 0) = true := bne_iff_ne.2 hx0
          have HG := Lib.hid (HEn.out he HK8.out hx0)
          go_wp2_with fail
          exact bodyPost_ret (v := .tuple #[Cm.cv .nilIface, .int .i64 x]) (by simp [results, Cm.cv, Try.results11, go_sem, c6]) rfl (getE_no HG.out (bset HB6.out (Nat.le_refl _) _ _))
      · rw [ofE_no hk8]
        have HG := Lib.hid (HKd.out he hk8)
        clear hk8
        have c7 : ((w4.setCell ⟨w.heap.size, 0, none⟩ .nilIface).alloc (.cells #[v] 25)).cell? ⟨w.heap.size, 0, none⟩ = some .nilIface := by
          rw [(bcell (below_box (Below.refl _ _) _)).1 _ _ (by simpa using hlt4)]
          simp [go_sem, c4]
        go_wp2_with fail
        exact bodyPost_ret (v := .tuple #[Cm.cv .nilIface, .int .i64 17]) (by simp [results, Cm.cv, Try.results11, go_sem, c7]) rfl (getE_no HG.out (below_box (bset HB4.out (Nat.le_refl _) _ _) _))
    · have q1 : (s1.err != 0) = true := bne_iff_ne.2 he
      go_wp2_with fail
      exact bodyPost_ret (v := .tuple #[Cm.cv .nilIface, .int .i64 s1.err]) (by simp [results, Cm.cv, Try.results11, go_sem, c2]) rfl (getE_no (HN.out he) (bset HB2.out (Nat.le_refl _) _ _))
end Go.Proofs.Ytndfhnaafaijcaa
