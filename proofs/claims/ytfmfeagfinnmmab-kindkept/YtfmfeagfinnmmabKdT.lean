/- CONTRACTS OF PACKAGE kind: takeList. -/
import Derived.Test.YtfmfeagfinnmmabKdG
namespace Go.Proofs.Ytfmfeagfinnmmab
open Go.RowKit
open Vl (T)
open Mem Tg

/-- three answers -/
def three (v s : Value) (e : Int) : Ending := .returned (.tuple #[tv v, s, .int .i64 e])
/-- what take answers: the values behind are old memory, the thing is new -/
def tookP (r : Int ⊕ (Th × List T)) (w0 w : World) (e : Ending) (w' : World) : Prop := match r with
  | .inl k => e = three .nilIface (.slice none 0 0) k
  | .inr p => ∃ v ao n cap, e = three v (.slice ao n cap) 0 ∧ Vl.Ls w0 ao n cap p.2 ∧ Is (fun b => w.heap.size ≤ b) w' p.1 v
def takeP (f : Nat) (l : List T) (ao : Option Addr) (n cap within : Nat) (w0 w : World) : Prop :=
  Calls Try.prog 22 #[.slice ao n cap, .int .i64 (within : Int)] w fun e w' => tookP (Th.tk f l) w0 w e w' ∧ Below w.heap.size w w'
def wrapL : Int ⊕ (List Th × List T) → Int ⊕ (Th × List T)
  | .inl e => .inl e
  | .inr p => .inr (.list p.1, p.2)
theorem Tg.Is.grown {A A' : Nat → Prop} {X y : World} {row : Option Nat} {t : Th} {v : Value} (h : Is A X t v) (gr : X.grownBy y row) (hr : ∀ b, A b → row ≠ some b) (hA : ∀ b, b < X.heap.size → A b → A' b) : Is A' y t v :=
  h.frame (fun b a o x e => by
    have hl := cell_lt e
    rw [World.cell?_of_block (w := X) (w' := y) (a := ⟨b, o, none⟩) (gr.block b hl (fun k => hr b a k.symm))]
    exact e) (fun b o x e a => hA b (cell_lt e) a)
theorem und_list : Try.prog.underlying 57 = some (.slice 26) := by kernel_rfl
set_option maxHeartbeats 4000000 in
theorem take_list (f : Nat) (l : List T) (ao : Option Addr) (n cap within N : Nat) (w0 w : World) (hw : Below w0.heap.size w0 w) (hL : Vl.Ls w0 ao n cap l) (hn : n ≤ 200) (hN : N ≤ 9223372036854775807) (hf : f ≤ 17)
    (ih : ∀ (l : List T) (ao : Option Addr) (n cap : Nat) (u0 u : World), Below u0.heap.size u0 u → Vl.Ls u0 ao n cap l → n ≤ 200 → takeP f l ao n cap within u0 u) :
    Calls Try.prog 28 #[.slice ao n cap, .int .i64 (N : Int), .int .i64 (within : Int)] w fun e w' => tookP (wrapL (Th.manyA (Th.tk f) N [] l)) w0 w e w' ∧ Below w.heap.size w w' := by
  have HW := Lib.hid hw
  have HL := Lib.hid hL
  have HIh : Hid (∀ (l : List T) (ao : Option Addr) (n cap : Nat) (u0 u : World), Below u0.heap.size u0 u → Vl.Ls u0 ao n cap l → n ≤ 200 → takeP f l ao n cap within u0 u) := Lib.hid ih
  clear hw hL ih
  have HBx := Lib.hid ((Below.refl w.heap.size w).alloc (Nat.le_refl _) (.cells #[.nilIface] 26))
  have hc0 : (w.alloc (.cells #[.nilIface] 26)).cell? ⟨w.heap.size, 0, none⟩ = some .nilIface := by simp [go_sem]
  have hf0 : (w.alloc (.cells #[.nilIface] 26)).frozen? ⟨w.heap.size, 0, none⟩ = false := by simp [go_sem]
  obtain ⟨W, hW⟩ : ∃ W, w.alloc (.cells #[.nilIface] 26) = W := ⟨_, rfl⟩
  rw [hW] at HBx hc0 hf0
  have hWs : W.heap.size = w.heap.size + 1 := by rw [← hW]; simp
  have HWs := Lib.hid hWs
  have HC0 := Lib.hid hc0
  have HF0 := Lib.hid hf0
  clear hc0 hf0 hWs
  go_enter Try.func28, Try.ntmps28
  go_wp2_with fail
  go_loopw [0, 9, 10, 11, 12, 14] (fun s th _ _ _ i wr => ∃ (j q c : Nat) (bo : Option Addr) (tsv : Value) (rest : List T) (ts : List Th) (vs : List Value), s = .slice bo q c ∧ tsv = th ∧ i = .int .i64 j ∧ j ≤ N ∧ q ≤ 200 ∧ Hid (j + q ≤ n) ∧ Hid (Th.manyA (Th.tk f) (N - j) ts rest = Th.manyA (Th.tk f) N [] l) ∧ Hid (Vl.Ls w0 bo q c rest) ∧ Hid (ts.length = j) ∧ Hid (Own wr W.heap.size tsv vs) ∧ Hid (Each (fun b => W.heap.size ≤ b ∧ tsv.ownBlock ≠ some b) wr ts vs) ∧ Hid (Below W.heap.size W wr)) (fun _ _ _ _ _ i _ => N - (intOf i).toNat)
  case atStart => exact ⟨0, n, cap, ao, _, l, [], [], rfl, rfl, rfl, by omega, hn, Lib.hid (by omega), Lib.hid rfl, HL, Lib.hid rfl, Lib.hid (own_nil _ _), Lib.hid .nil, Lib.hid (by rw [← hW]; exact Below.refl _ _)⟩
  case round =>
    clear hW
    obtain ⟨j, q, c, bo, th, rest, ts, vs, rfl, rfl, rfl, hj, hq, HJ, HK, HLr, HTl, HOw, HEa, HB⟩ := hrel
    have HBw := Lib.hid (bchain HBx.out HB.out)
    by_cases hlt : j < N
    · go_wp2_with fail
      have hcall := HIh.out rest bo q c w0 wr (bchain HW.out HBw.out) HLr.out hq
      unfold takeP at hcall
      refine hcall.mono ?_
      rintro e w1 ⟨he, b1⟩
      have HB1 := Lib.hid b1
      have hsz := HB.out.size
      have hsz1 := b1.size
      have hc : w1.cell? ⟨w.heap.size, 0, none⟩ = some .nilIface := by
        rw [(bcell b1).1 _ _ (by have := HWs.out; omega), (bcell HB.out).1 _ _ (by have := HWs.out; omega)]
        exact HC0.out
      have hfz : w1.frozen? ⟨w.heap.size, 0, none⟩ = false := by
        rw [(bcell b1).2 _ _ (by have := HWs.out; omega), (bcell HB.out).2 _ _ (by have := HWs.out; omega)]
        exact HF0.out
      clear hcall b1
      cases hr : Th.tk f rest with
      | inl k =>
        rw [hr] at he
        unfold tookP three tv at he
        dsimp only at he
        subst he
        have hk0 := (Th.tk_ne hr).1
        have hne2 : (k != 0) = true := bne_iff_ne.2 hk0
        have HF : Hid (Th.manyA (Th.tk f) N [] l = .inl k) := Lib.hid (by rw [← HK.out, show N - j = (N - j - 1) + 1 by omega, Th.manyA_bad hr])
        clear hr hk0
        have bX : Below w1.heap.size w1 (w1.alloc (.cells #[.nilIface] 26)) := (Below.refl _ _).alloc (Nat.le_refl _) _
        have hcX : (w1.alloc (.cells #[.nilIface] 26)).cell? ⟨w.heap.size, 0, none⟩ = some .nilIface := by
          rw [(bcell bX).1 _ _ (cell_lt hc)]
          exact hc
        have hfX : (w1.alloc (.cells #[.nilIface] 26)).frozen? ⟨w.heap.size, 0, none⟩ = false := by
          rw [(bcell bX).2 _ _ (cell_lt hc)]
          exact hfz
        have HBX := Lib.hid (bchain (bchain HBw.out HB1.out) bX)
        clear bX
        go_wp2_with fail
        exact bodyPost_ret (v := .tuple #[tv .nilIface, .slice none 0 0, .int .i64 k]) (by simp [results, tv, Try.results28, go_sem, hcX]) rfl ⟨by rw [HF.out]; rfl, HBX.out.setCell (p := ⟨w.heap.size, 0, none⟩) (Nat.le_refl _) _⟩
      | inr p =>
        obtain ⟨t, r⟩ := p
        rw [hr] at he
        unfold tookP three tv at he
        dsimp only at he
        obtain ⟨v, ro, rn, rc, rfl, hLs, hIs⟩ := he
        have hv1 := hIs.oneCell
        have hst := store_fresh w1 v hv1
        have hrl : rn < q := by
          have h1 := (Th.tk_flat f hf _ _ _ hr).1
          have h2 := congrArg List.length h1
          have h3 := Th.flat_pos t
          rw [List.length_append, ← HLr.out.len, ← hLs.len] at h2
          omega
        have HS : Hid (Th.manyA (Th.tk f) (N - (j + 1)) (ts ++ [t]) r = Th.manyA (Th.tk f) N [] l) := Lib.hid (by rw [← HK.out, show N - j = (N - (j + 1)) + 1 by omega, Th.manyA_step hr])
        have HLs := Lib.hid hLs
        have HIs := Lib.hid hIs
        have HO1 : Hid (∀ a b, Own ((w1.alloc a).alloc b) W.heap.size th vs) := fun a b => own_alloc (own_alloc (own_below HOw.out HB1.out) a) b
        clear hr hLs hIs
        go_wp2_with (at_builtin; go_must (refine Tg.wpList_append _ rfl (.tmp 27) (.tmp 29) 57 und_list rfl W.heap.size th vs rfl (HO1.out _ _) (w1.heap.size + 1) 1 v rfl (by simp [go_sem]) hv1 (by have h1 := HEa.out.1; have h2 := HTl.out; have h3 := HJ.out; omega) (by simp; omega) ?_))
        intro v' y1 o1 gr1 hown1
        have HO2 := Lib.hid o1
        have bX : Below w1.heap.size w1 ((w1.alloc (.cells #[v] 26)).alloc (.cells #[v] 26)) := ((Below.refl _ _).alloc (Nat.le_refl _) _).alloc (by simp) _
        have HE2 : Hid (Each (fun b => W.heap.size ≤ b ∧ v'.ownBlock ≠ some b) y1 (ts ++ [t]) (vs ++ [v])) := Lib.hid (by
          have hnew : ∀ b, b < ((w1.alloc (.cells #[v] 26)).alloc (.cells #[v] 26)).heap.size → th.ownBlock ≠ some b → v'.ownBlock ≠ some b := by
            intro b hb hne k
            rcases hown1 with h | h
            · exact hne (h ▸ k)
            · rw [h] at k
              injection k with k
              rw [← k] at hb
              exact absurd hb (by simp)
          refine Each.app ⟨HEa.out.1, fun i a b => ?_⟩ ?_
          · exact ((HEa.out.2 i a b).stays (HB1.out.trans (bX.mono hsz1))).grown gr1 (fun b a => a.2) (fun b hb a => ⟨a.1, hnew b hb a.2⟩)
          · refine (HIs.out.stays bX).grown gr1 (fun b a k => ?_) (fun b hb a => ⟨by omega, hnew b hb fun k => ?_⟩)
            · have := own_lt HOw.out b k
              omega
            · have := own_lt HOw.out b k
              omega)
        have HB2 : Hid (Below W.heap.size W y1) := Lib.hid ((bchain (bchain HB.out HB1.out) bX).grown gr1 (bchain (bchain HB.out HB1.out) bX).size (own_ge HOw.out))
        have HT2 : Hid ((ts ++ [t]).length = j + 1) := Lib.hid (by rw [List.length_append, HTl.out]; rfl)
        clear o1 gr1 hown1 bX hst
        go_wp2_with fail
        go_roundw
        case rel => exact ⟨j + 1, rn, rc, ro, v', r, ts ++ [t], vs ++ [v], rfl, rfl, by go_num, by omega, by omega, Lib.hid (by have := HJ.out; omega), HS, HLs, HT2, HO2, HE2, HB2⟩
        case measure => simp [intOf]; omega
    · obtain rfl : j = N := by omega
      have hsz := HB.out.size
      have hc : wr.cell? ⟨w.heap.size, 0, none⟩ = some .nilIface := by
        rw [(bcell HB.out).1 _ _ (by have := HWs.out; omega)]
        exact HC0.out
      have hfz : wr.frozen? ⟨w.heap.size, 0, none⟩ = false := by
        rw [(bcell HB.out).2 _ _ (by have := HWs.out; omega)]
        exact HF0.out
      have HF : Hid (Th.manyA (Th.tk f) j [] l = .inr (ts, rest)) := Lib.hid (by rw [← HK.out, Nat.sub_self]; rfl)
      obtain ⟨to, tc, rfl, ht1, ht2, ht3, ht4⟩ := own_seg HOw.out
      have HSg := Lib.hid ht4
      have HT3 := Lib.hid ht3
      clear ht3 ht4
      go_wp2_with fail
      refine bodyPost_ret (v := .tuple #[tv (.iface 57 (.slice to vs.length tc)), .slice bo q c, .int .i64 0]) (by simp [results, tv, Try.results28, go_sem, hc]) rfl ⟨?_, HBw.out.setCell (p := ⟨w.heap.size, 0, none⟩) (Nat.le_refl _) _⟩
      rw [HF.out]
      refine ⟨_, _, _, _, rfl, HLr.out, ?_⟩
      have hk : ∀ b o x, W.heap.size ≤ b → wr.cell? ⟨b, o, none⟩ = some x → (wr.setCell ⟨w.heap.size, 0, none⟩ (.iface 57 (.slice to vs.length tc))).cell? ⟨b, o, none⟩ = some x := by
        intro b o x hb hx
        have hne : b ≠ w.heap.size := by have := HWs.out; omega
        simp [go_sem, hx]
      refine .list (vs := vs) HEa.out.1.symm rfl ht1 ht2 (by have h1 := HEa.out.1; have h2 := HTl.out; have h3 := HJ.out; omega) HT3.out ?_ ?_
      · exact HSg.out.frame (fun b a o x e => hk b o x a.2 e) (fun b _ _ _ a => by have := HWs.out; have := a.2; omega)
      · exact (HEa.out.frame (A' := fun b => w.heap.size ≤ b) (fun b a o x e => hk b o x a.1 e) (fun b _ _ _ a => by have := HWs.out; have := a.1; omega)).2
end Go.Proofs.Ytfmfeagfinnmmab
