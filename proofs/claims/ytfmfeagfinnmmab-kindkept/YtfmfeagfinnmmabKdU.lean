/- CONTRACTS OF PACKAGE kind: take, Of. -/
import Derived.Test.YtfmfeagfinnmmabKdT
namespace Go.Proofs.Ytfmfeagfinnmmab
open Go.RowKit
open Vl (T)
open Mem Tg

set_option maxHeartbeats 4000000 in
theorem take_step (f : Nat) (l : List T) (ao : Option Addr) (n cap within : Nat) (w0 w : World) (hw : Below w0.heap.size w0 w) (hL : Vl.Ls w0 ao n cap l) (hn : n ≤ 200) (hd : within + f = 16)
    (ih : 1 ≤ f → ∀ (l : List T) (ao : Option Addr) (n cap : Nat) (u0 u : World), Below u0.heap.size u0 u → Vl.Ls u0 ao n cap l → n ≤ 200 → takeP f l ao n cap (within + 1) u0 u) : takeP (f + 1) l ao n cap within w0 w := by
  have HW := Lib.hid hw
  have HL := Lib.hid hL
  have HIh : Hid (1 ≤ f → ∀ (l : List T) (ao : Option Addr) (n cap : Nat) (u0 u : World), Below u0.heap.size u0 u → Vl.Ls u0 ao n cap l → n ≤ 200 → takeP f l ao n cap (within + 1) u0 u) := Lib.hid ih
  have hfit := hL.fits
  have hcap := hL.reach
  have hlen := hL.len
  unfold takeP
  clear ih
  cases l with
  | nil =>
    obtain rfl : n = 0 := hlen
    clear hw hL
    go_enter Try.func22, Try.ntmps22
    go_wp2_with fail
    exact bodyPost_ret (v := .tuple #[tv .nilIface, .slice none 0 0, .int .i64 3]) (by simp [results, tv, Try.results22, go_sem]) rfl ⟨rfl, by repeat (first | exact Below.refl _ _ | refine Below.alloc ?_ (by simp) _ | refine Below.setCell ?_ (by simp) _)⟩
  | cons x rest =>
    have hn1 : 1 ≤ n := by rw [hlen, List.length_cons]; omega
    obtain ⟨b, off, rfl⟩ := hL.at (by omega)
    have hrow := (hL.row 0 (by simp))
    have hlt0 := cell_lt hrow.c0
    have hrow := hrow.below hw
    rw [List.getElem_cons_zero, Nat.zero_mul, Nat.add_zero] at hrow
    obtain ⟨ro, rc, hsl, hR⟩ := hL.from 1 (by omega)
    rw [List.drop_succ_cons, List.drop_zero] at hR
    rw [show ((1 : Nat) : Int) = 1 from rfl] at hsl
    have HSh := Lib.hid (hL.short x (by simp))
    have HR := Lib.hid hR
    obtain ⟨g0, g1, g2, g3, g4, g5⟩ := hrow
    have hp : 0 < n := hn1
    have keep : ∀ (X : World) (p : Nat) (z : Value), Below w.heap.size w X → w.cell? ⟨b, p, none⟩ = some z → X.cell? ⟨b, p, none⟩ = some z := fun X p z hX hz => by
      rw [(bcell hX).1 _ _ (cell_lt hz)]
      exact hz
    have B1 : Below w.heap.size w (w.alloc (.cells #[.nilIface] 26)).drew := ((Below.refl _ _).alloc (Nat.le_refl _) _).drew
    have B2 : Below w.heap.size w ((w.alloc (.cells #[.nilIface] 26)).alloc (.cells #[.int .i64 0, .int .i64 0, .string ⟨#[]⟩, .int .i64 0, .int .i64 0, .int .i64 0] 41)).drew := (((Below.refl _ _).alloc (Nat.le_refl _) _).alloc (by simp) _).drew
    have k0 := keep _ _ _ B1 g0
    have k1 := keep _ _ _ B1 g1
    have k2 := keep _ _ _ B1 g2
    have k3 := keep _ _ _ B1 g3
    have k4 := keep _ _ _ B1 g4
    have k5 := keep _ _ _ B1 g5
    have l0 := keep _ _ _ B2 g0
    have l1 := keep _ _ _ B2 g1
    have l2 := keep _ _ _ B2 g2
    have l3 := keep _ _ _ B2 g3
    have l4 := keep _ _ _ B2 g4
    have l5 := keep _ _ _ B2 g5
    clear keep B1 B2 g0 g1 g2 g3 g4 g5
    clear hw hL hlen hR
    go_enter Try.func22, Try.ntmps22
    go_wp2_with fail
    go_region
    clear k0 k1 k2 k3 k4 k5 l0 l1 l2 l3 l4 l5 hsl hrow hlt0
    have bX : Below w.heap.size w ((w.alloc (.cells #[.nilIface] 26)).alloc (.cells #[.int .i64 x.kind, .int .i64 x.n, .string x.text, .int .i64 x.y, .int .i64 x.m, .int .i64 x.d] 41)).drew := (((Below.refl _ _).alloc (Nat.le_refl _) _).alloc (by simp) _).drew
    have hC : Vl.C ((w.alloc (.cells #[.nilIface] 26)).alloc (.cells #[.int .i64 x.kind, .int .i64 x.n, .string x.text, .int .i64 x.y, .int .i64 x.m, .int .i64 x.d] 41)).drew (w.heap.size + 1) x := by
      unfold Vl.C
      simp [go_sem]
    have hc0 : ((w.alloc (.cells #[.nilIface] 26)).alloc (.cells #[.int .i64 x.kind, .int .i64 x.n, .string x.text, .int .i64 x.y, .int .i64 x.m, .int .i64 x.d] 41)).drew.cell? ⟨w.heap.size, 0, none⟩ = some .nilIface := by simp [go_sem]
    have hf0 : ((w.alloc (.cells #[.nilIface] 26)).alloc (.cells #[.int .i64 x.kind, .int .i64 x.n, .string x.text, .int .i64 x.y, .int .i64 x.m, .int .i64 x.d] 41)).drew.frozen? ⟨w.heap.size, 0, none⟩ = false := by simp [go_sem]
    have hsX : ((w.alloc (.cells #[.nilIface] 26)).alloc (.cells #[.int .i64 x.kind, .int .i64 x.n, .string x.text, .int .i64 x.y, .int .i64 x.m, .int .i64 x.d] 41)).drew.heap.size = w.heap.size + 2 := by simp
    generalize ((w.alloc (.cells #[.nilIface] 26)).alloc (.cells #[.int .i64 x.kind, .int .i64 x.n, .string x.text, .int .i64 x.y, .int .i64 x.m, .int .i64 x.d] 41)).drew = X at *
    have hCX := hC
    unfold Vl.C at hC
    obtain ⟨a0, a1, a2, a3, a4, a5⟩ := hC
    have HCX := Lib.hid hCX
    have HBX := Lib.hid bX
    have HC0 := Lib.hid hc0
    have HF0 := Lib.hid hf0
    have HsX := Lib.hid hsX
    clear hCX bX hc0 hf0 hsX
    have hfa := kind_fault x within (by omega) X X (Below.refl _ _)
    unfold faultP at hfa
    go_wp2_with fail
    refine hfa.mono ?_
    rintro e w1 ⟨rfl, b1⟩
    clear hfa a0 a1 a2 a3 a4 a5
    have hC1 := HCX.out.below b1
    have HC1 := Lib.hid hC1
    unfold Vl.C at hC1
    obtain ⟨a0, a1, a2, a3, a4, a5⟩ := hC1
    have hs1 := b1.size
    have hc1 : w1.cell? ⟨w.heap.size, 0, none⟩ = some .nilIface := by
      rw [(bcell b1).1 _ _ (cell_lt HC0.out)]
      exact HC0.out
    have hf1 : w1.frozen? ⟨w.heap.size, 0, none⟩ = false := by
      rw [(bcell b1).2 _ _ (cell_lt HC0.out)]
      exact HF0.out
    have HB1 := Lib.hid (bchain HBX.out b1)
    have HD : Hid (16 - f = within) := Lib.hid (by omega)
    have HC1c := Lib.hid hc1
    have HF1 := Lib.hid hf1
    have HS1 : Hid (w.heap.size + 2 ≤ w1.heap.size) := Lib.hid (by have := HsX.out; omega)
    clear b1 hs1
    by_cases hchk : Kd.chk x within = 0
    · have HT0 := Lib.hid (Th.chk_zero hchk)
      have HK0 : Hid (Kd.chk x (16 - f) = 0) := Lib.hid (by rw [HD.out]; exact hchk)
      rw [hchk]
      by_cases h5 : x.kind = 5
      · have q5 : (x.kind == 5) = true := beq_iff_eq.2 h5
        obtain ⟨N, hN⟩ : ∃ N : Nat, x.n = N := ⟨x.n.toNat, by
          have h := HT0.out.2
          unfold Kd.good at h
          omega⟩
        have hf : 1 ≤ f := by
          have h := HT0.out.1
          rw [h5] at h
          simp at h
          omega
        have HE : Hid (Th.tk (f + 1) (x :: rest) = wrapL (Th.manyA (Th.tk f) N [] rest)) := Lib.hid (by
          rw [Th.tk_list HK0.out h5, hN]
          rw [Int.toNat_natCast]
          cases Th.manyA (Th.tk f) N [] rest <;> rfl)
        have hcall := take_list f rest ro (n - 1) rc (within + 1) N w0 w1 (bchain HW.out HB1.out) HR.out (by omega) (by have := HSh.out.2.1.2; rw [hN] at this; omega) (by omega) (HIh.out hf)
        rw [show ((within + 1 : Nat) : Int) = (within : Int) + 1 from by omega] at hcall
        rw [hN] at a1
        have HCa := Lib.hid hcall
        clear hcall hN h5 hchk
        go_wp2_with fail
        refine HCa.out.mono ?_
        rintro e w2 ⟨he, b2⟩
        have hc2 : w2.cell? ⟨w.heap.size, 0, none⟩ = some .nilIface := by
          rw [(bcell b2).1 _ _ (cell_lt HC1c.out)]
          exact HC1c.out
        have hf2 : w2.frozen? ⟨w.heap.size, 0, none⟩ = false := by
          rw [(bcell b2).2 _ _ (cell_lt HC1c.out)]
          exact HF1.out
        have HB2 := Lib.hid (bchain HB1.out b2)
        clear b2
        cases hr : Th.manyA (Th.tk f) N [] rest with
        | inl k =>
          rw [hr] at he
          have HF : Hid (Th.tk (f + 1) (x :: rest) = .inl k) := Lib.hid (by rw [HE.out, hr]; rfl)
          unfold wrapL tookP three tv at he
          dsimp only at he
          subst he
          clear hr
          go_wp2_with fail
          exact bodyPost_ret (v := .tuple #[tv .nilIface, .slice none 0 0, .int .i64 k]) (by simp [results, tv, Try.results22, go_sem, hc2]) rfl ⟨by rw [HF.out]; rfl, HB2.out.setCell (p := ⟨w.heap.size, 0, none⟩) (Nat.le_refl _) _⟩
        | inr p =>
          obtain ⟨ts, r⟩ := p
          rw [hr] at he
          have HF : Hid (Th.tk (f + 1) (x :: rest) = .inr (.list ts, r)) := Lib.hid (by rw [HE.out, hr]; rfl)
          unfold wrapL tookP three tv at he
          dsimp only at he
          obtain ⟨v, so, sn, sc, rfl, hLs, hIs⟩ := he
          have hst := store_at hc2 hf2 hIs.oneCell
          have HLs := Lib.hid hLs
          have HIs := Lib.hid hIs
          clear hr hLs hIs
          go_wp2_with fail
          refine bodyPost_ret (v := .tuple #[tv v, .slice so sn sc, .int .i64 0]) (by simp [results, tv, Try.results22, go_sem, hc2]) rfl ⟨by
            rw [HF.out]
            refine ⟨v, so, sn, sc, rfl, HLs.out, HIs.out.frame (fun b a o z e => ?_) (fun b _ _ _ a => by have := HS1.out; omega)⟩
            have hne : b ≠ w.heap.size := by have := HS1.out; omega
            simp [go_sem, e], HB2.out.setCell (p := ⟨w.heap.size, 0, none⟩) (Nat.le_refl _) _⟩
      · have q5 : (x.kind == 5) = false := beq_eq_false_iff_ne.2 h5
        have HF : Hid (Th.tk (f + 1) (x :: rest) = .inr (Th.one x, rest)) := Lib.hid (Th.tk_one HK0.out h5)
        have hcall := kind_single x w1 w1 (Below.refl _ _)
        unfold Vl.val at hcall
        have HCa := Lib.hid hcall
        clear hcall h5 hchk
        go_wp2_with fail
        refine HCa.out.mono ?_
        rintro e w2 ⟨rfl, b2⟩
        have hc2 : w2.cell? ⟨w.heap.size, 0, none⟩ = some .nilIface := by
          rw [(bcell b2).1 _ _ (cell_lt HC1c.out)]
          exact HC1c.out
        have hf2 : w2.frozen? ⟨w.heap.size, 0, none⟩ = false := by
          rw [(bcell b2).2 _ _ (cell_lt HC1c.out)]
          exact HF1.out
        have HB2 := Lib.hid (bchain HB1.out b2)
        clear b2
        have HIs := Lib.hid (fun A u => is_one A u x HSh.out)
        obtain ⟨v, hv⟩ : ∃ v, oneV x = v := ⟨_, rfl⟩
        rw [hv] at HIs
        rw [hv]
        have hst := store_at hc2 hf2 (HIs.out (fun _ => True) w2).oneCell
        unfold tv
        clear hv
        go_wp2_with fail
        exact bodyPost_ret (v := .tuple #[tv v, .slice ro (n - 1) rc, .int .i64 0]) (by simp [results, tv, Try.results22, go_sem, hc2]) rfl ⟨by
          rw [HF.out]
          exact ⟨v, _, _, _, rfl, HR.out, HIs.out _ _⟩, HB2.out.setCell (p := ⟨w.heap.size, 0, none⟩) (Nat.le_refl _) _⟩
    · obtain ⟨k, hk⟩ : ∃ k, Kd.chk x within = k := ⟨_, rfl⟩
      have HF : Hid (Th.tk (f + 1) (x :: rest) = .inl k) := Lib.hid (by
        rw [Th.tk_bad (by rw [HD.out]; exact hchk), HD.out, hk])
      rw [hk] at hchk ⊢
      have hne : (k != 0) = true := bne_iff_ne.2 hchk
      clear hk hchk
      go_wp2_with fail
      exact bodyPost_ret (v := .tuple #[tv .nilIface, .slice none 0 0, .int .i64 k]) (by simp [results, tv, Try.results22, go_sem, hc1]) rfl ⟨by rw [HF.out]; rfl, HB1.out.setCell (p := ⟨w.heap.size, 0, none⟩) (Nat.le_refl _) _⟩
theorem take_any : ∀ (f within : Nat), within + f = 16 → ∀ (l : List T) (ao : Option Addr) (n cap : Nat) (w0 w : World), Below w0.heap.size w0 w → Vl.Ls w0 ao n cap l → n ≤ 200 → takeP (f + 1) l ao n cap within w0 w
  | 0, within, h, l, ao, n, cap, w0, w, hw, hL, hn => take_step 0 l ao n cap within w0 w hw hL hn h (fun k => by omega)
  | f + 1, within, h, l, ao, n, cap, w0, w, hw, hL, hn => take_step (f + 1) l ao n cap within w0 w hw hL hn h (fun _ l ao n cap u0 u a b c => take_any f (within + 1) (by omega) l ao n cap u0 u a b c)
/-- what Of answers -/
def ofP (l : List T) (w : World) (e : Ending) (w' : World) : Prop :=
  (Kd.ofE l = 0 ∧ ∃ t v, Th.tk 17 l = .inr (t, []) ∧ e = .returned (.tuple #[tv v, .int .i64 0]) ∧ Is (fun b => w.heap.size ≤ b) w' t v) ∨
  (Kd.ofE l ≠ 0 ∧ e = .returned (.tuple #[tv .nilIface, .int .i64 (Kd.ofE l)]))
theorem ofE_tk_bad {l : List T} {k : Int} (h : ¬ 200 < l.length) (hr : Th.tk 17 l = .inl k) : Kd.ofE l = k := by
  unfold Kd.ofE
  rw [if_neg h, Th.walk_tk, hr]
  rfl
theorem ofE_tk_ok {l : List T} {t : Th} (h : ¬ 200 < l.length) (hr : Th.tk 17 l = .inr (t, [])) : Kd.ofE l = 0 := by
  unfold Kd.ofE
  rw [if_neg h, Th.walk_tk, hr]
  rfl
theorem ofE_tk_tail {l r : List T} {t : Th} {x : T} (h : ¬ 200 < l.length) (hr : Th.tk 17 l = .inr (t, x :: r)) : Kd.ofE l = 5 := by
  unfold Kd.ofE
  rw [if_neg h, Th.walk_tk, hr]
  rfl
set_option maxHeartbeats 2000000 in
theorem kind_of (l : List T) (ao : Option Addr) (n cap : Nat) (w0 w : World) (hw : Below w0.heap.size w0 w) (hL : Vl.Ls w0 ao n cap l) :
    Calls Try.prog 11 #[.slice ao n cap] w fun e w' => ofP l w e w' ∧ Below w.heap.size w w' := by
  have HW := Lib.hid hw
  have HL := Lib.hid hL
  have hfit := hL.fits
  have hcap := hL.reach
  have HN := Lib.hid hL.len
  clear hw hL
  have bX : Below w.heap.size w (w.alloc (.cells #[.nilIface] 26)) := (Below.refl _ _).alloc (Nat.le_refl _) _
  have HBX := Lib.hid bX
  by_cases h200 : 200 < n
  · have HE : Hid (Kd.ofE l = 2) := Lib.hid (if_pos (by rw [← HN.out]; exact h200))
    clear bX
    go_enter Try.func11, Try.ntmps11
    go_wp2_with fail
    exact bodyPost_ret (v := .tuple #[tv .nilIface, .int .i64 2]) (by simp [results, tv, Try.results11, go_sem]) rfl ⟨.inr ⟨by rw [HE.out]; omega, by rw [HE.out]⟩, HBX.out⟩
  · have H200 : Hid (¬ 200 < l.length) := Lib.hid (by rw [← HN.out]; exact h200)
    have hcall := take_any 16 0 rfl l ao n cap w0 (w.alloc (.cells #[.nilIface] 26)) (bchain HW.out bX) HL.out (by omega)
    unfold takeP at hcall
    have HCa := Lib.hid hcall
    have HsX : Hid ((w.alloc (.cells #[.nilIface] 26)).heap.size = w.heap.size + 1) := Lib.hid (by simp)
    clear hcall bX
    go_enter Try.func11, Try.ntmps11
    go_wp2_with fail
    refine HCa.out.mono ?_
    rintro e w1 ⟨he, b1⟩
    have hc1 : w1.cell? ⟨w.heap.size, 0, none⟩ = some .nilIface := by
      rw [(bcell b1).1 _ _ (by rw [HsX.out]; omega)]
      simp [go_sem]
    have hf1 : w1.frozen? ⟨w.heap.size, 0, none⟩ = false := by
      rw [(bcell b1).2 _ _ (by rw [HsX.out]; omega)]
      simp [go_sem]
    have HB1 := Lib.hid (bchain HBX.out b1)
    have hs1 := b1.size
    rw [HsX.out] at hs1
    have after : ∀ z : Value, (w1.alloc (.cells #[z] 26)).cell? ⟨w.heap.size, 0, none⟩ = some .nilIface ∧ (w1.alloc (.cells #[z] 26)).frozen? ⟨w.heap.size, 0, none⟩ = false := by
      intro z
      have bz : Below w1.heap.size w1 (w1.alloc (.cells #[z] 26)) := (Below.refl _ _).alloc (Nat.le_refl _) _
      rw [(bcell bz).1 _ _ (cell_lt hc1), (bcell bz).2 _ _ (cell_lt hc1)]
      exact ⟨hc1, hf1⟩
    clear b1
    cases hr : Th.tk 17 l with
    | inl k =>
      rw [hr] at he
      unfold tookP three tv at he
      dsimp only at he
      subst he
      have hk := (Th.tk_ne hr).1
      have hne : (k != 0) = true := bne_iff_ne.2 hk
      have HE : Hid (Kd.ofE l = k) := Lib.hid (ofE_tk_bad H200.out hr)
      have HK := Lib.hid hk
      obtain ⟨hcz, hfz⟩ := after .nilIface
      clear hr hk after
      go_wp2_with fail
      exact bodyPost_ret (v := .tuple #[tv .nilIface, .int .i64 k]) (by simp [results, tv, Try.results11, go_sem, hcz]) rfl ⟨.inr ⟨by rw [HE.out]; exact HK.out, by rw [HE.out]⟩, ((HB1.out.alloc (by omega) _).setCell (p := ⟨w.heap.size, 0, none⟩) (Nat.le_refl _) _)⟩
    | inr p =>
      obtain ⟨t, r⟩ := p
      rw [hr] at he
      unfold tookP three tv at he
      dsimp only at he
      obtain ⟨v, so, sn, sc, rfl, hLs, hIs⟩ := he
      have hv1 := hIs.oneCell
      have hst := store_fresh w1 v hv1
      obtain ⟨hcz, hfz⟩ := after v
      have hst2 := store_at hcz hfz hv1
      clear after
      cases r with
      | nil =>
        obtain rfl : sn = 0 := hLs.len
        have HE : Hid (Kd.ofE l = 0) := Lib.hid (ofE_tk_ok H200.out hr)
        have HIs := Lib.hid hIs
        have HR := Lib.hid hr
        clear hr hLs hIs
        go_wp2_with fail
        refine bodyPost_ret (v := .tuple #[tv v, .int .i64 0]) (by simp [results, tv, Try.results11, go_sem, hcz]) rfl ⟨.inl ⟨HE.out, t, v, HR.out, rfl, ?_⟩, ((HB1.out.alloc (by omega) _).setCell (p := ⟨w.heap.size, 0, none⟩) (Nat.le_refl _) _)⟩
        have bz : Below w1.heap.size w1 (w1.alloc (.cells #[v] 26)) := (Below.refl _ _).alloc (Nat.le_refl _) _
        have hI2 := HIs.out.stays bz
        refine hI2.frame (fun b a o z e => ?_) (fun b _ _ _ a => by have := HsX.out; omega)
        have hne : b ≠ w.heap.size := by have := HsX.out; omega
        simp [go_sem, e]
      | cons x r =>
        have hl := hLs.len
        rw [List.length_cons] at hl
        have hp : 0 < sn := by omega
        have hfs := hLs.fits
        have hrs := hLs.reach
        have HE : Hid (Kd.ofE l = 5) := Lib.hid (ofE_tk_tail H200.out hr)
        clear hr hLs hIs hl
        go_wp2_with fail
        exact bodyPost_ret (v := .tuple #[tv .nilIface, .int .i64 5]) (by simp [results, tv, Try.results11, go_sem, hcz]) rfl ⟨.inr ⟨by rw [HE.out]; omega, by rw [HE.out]⟩, ((HB1.out.alloc (by omega) _).setCell (p := ⟨w.heap.size, 0, none⟩) (Nat.le_refl _) _)⟩
end Go.Proofs.Ytfmfeagfinnmmab
