/- CONTRACTS OF PACKAGE letter: Get. (By genlth.py.) -/
import Derived.Test.YtagjbjppddbalaaLtG
set_option maxRecDepth 100000
set_option linter.unusedVariables false
namespace Go.Proofs.Ytagjbjppddbalaa
open Go.RowKit
open Mem Pk

theorem Lr.text_size (bs : List UInt8) (most : Int) (h : 0 ≤ most) (s : St) : ((rText bs most s).1.size : Int) ≤ most := by
  have h1 := rCount_pos bs most s
  have h2 := Lr.count_most bs most s
  have e : (rText bs most s).1.size = (((bs.take ((rCount bs most s).2.at' + (rCount bs most s).1.toNat)).drop (rCount bs most s).2.at')).length := by
    rw [← txt_len]
    rfl
  rw [e, List.length_drop, List.length_take]
  omega
theorem Lr.ents_short (bs : List UInt8) : ∀ (k : Nat) (s : St), ∀ e ∈ (Lr.rEnts bs k s).1, Et.Short e
  | 0, s, e, he => by cases he
  | k + 1, s, e, he => by
    rw [Lr.rEnts] at he
    rcases List.mem_cons.1 he with rfl | he
    · refine ⟨rNum_fit bs s, rNum_fit bs _, ?_⟩
      have := Lr.text_size bs 1100 (by omega) (rNum bs (rNum bs s).2).2
      show (rText bs 1100 (rNum bs (rNum bs s).2).2).1.size ≤ 140737488355328
      omega
    · exact Lr.ents_short bs k _ e he
/-- what Get answers -/
def Lr.GetE (w : World) (bs : List UInt8) (e : Ending) (w' : World) : Prop := ∃ r : Lr.T, e = .returned (.tuple #[Lr.val r, .int .i64 (Lr.getE bs)]) ∧ Lr.m r (Lr.getM bs).ents = Lr.getM bs ∧ Et.Own w' w.heap.size (.slice r.ents.ao r.ents.n r.ents.cap) (Lr.getM bs).ents ∧ (∀ x ∈ (Lr.getM bs).ents, Et.Short x) ∧ Below w.heap.size w w'
/-- a reader of Get's beside the answer's block and the letter's -/
structure Gq (w u : World) (p : Nat) (bo : Option Addr) (n : Nat) (bs : List UInt8) (s : St) (g : Nat) (r : Lr.T) (l : List Et.T) : Prop where
  rd : Rd u p bo n n bs s
  bel : Below w.heap.size w u
  res : u.heap[w.heap.size]? = some (.cells #[.int .i64 0, .int .i64 0, .int .i64 0, .int .i64 0, .int .i64 0, .int .i64 0, .int .i64 0, .int .i64 0, .int .i64 0, .int .i64 0, .bool false, .string ⟨#[]⟩, .slice none 0 0] 24 (0, 0))
  row : u.heap[g]? = some (.cells (Lr.rvA r) 24 (0, 0))
  own : Et.Own u (p + 1) (.slice r.ents.ao r.ents.n r.ents.cap) l
  lt : w.heap.size < p
  gl : p < g
section
variable {w u v : World} {p n g : Nat} {bo : Option Addr} {bs : List UInt8} {s s' : St} {r : Lr.T} {l : List Et.T}
theorem Gq.cell (h : Gq w u p bo n bs s g r l) (i : Nat) : u.cell? ⟨w.heap.size, i, none⟩ = (#[.int .i64 0, .int .i64 0, .int .i64 0, .int .i64 0, .int .i64 0, .int .i64 0, .int .i64 0, .int .i64 0, .int .i64 0, .int .i64 0, .bool false, .string ⟨#[]⟩, .slice none 0 0] : Array Value)[i]? := cell_of_row u _ i _ _ _ h.res
theorem Gq.fz (h : Gq w u p bo n bs s g r l) (o : Nat) : u.frozen? ⟨w.heap.size, o, none⟩ = false := frozen_of_row u _ o _ _ h.res
theorem Gq.cellr (h : Gq w u p bo n bs s g r l) (i : Nat) : u.cell? ⟨g, i, none⟩ = (Lr.rvA r)[i]? := cell_of_row u _ i _ _ _ h.row
theorem Gq.below (h : Gq w u p bo n bs s g r l) (k : Below u.heap.size u v) : Gq w v p bo n bs s g r l :=
  ⟨h.rd.below k, bchain h.bel k, (k.block _ (Array.getElem?_eq_some_iff.1 h.res).1).trans h.res, (k.block _ (Array.getElem?_eq_some_iff.1 h.row).1).trans h.row, Et.own_below h.own k, h.lt, h.gl⟩
theorem Gq.call (h : Gq w u p bo n bs s g r l) (q : Rd v p bo n n bs s') (k : Upd u p v) : Gq w v p bo n bs s' g r l :=
  ⟨q, k.below w h.bel (Nat.le_of_lt h.lt), (k.block _ (Array.getElem?_eq_some_iff.1 h.res).1 (Nat.ne_of_lt h.lt)).trans h.res, (k.block _ (Array.getElem?_eq_some_iff.1 h.row).1 (Nat.ne_of_gt h.gl)).trans h.row, rows_upd h.own k (Nat.lt_succ_self _), h.lt, h.gl⟩
theorem Gq.ls (h : Gq w u p bo n bs s g r l) (hs : ∀ e ∈ l, Et.Short e) : Et.Ls u r.ents.ao r.ents.n r.ents.cap l := by
  obtain ⟨ao, cap, e, q, _⟩ := Et.own_ls h.own hs
  obtain ⟨z1, z2, z3⟩ := Value.slice.inj e
  rw [z1, z2, z3]
  exact q
theorem Lr.results_lr2 {fn : Func} {p q : Tmp} (h : fn.results = #[.cell p 24, .tmp q]) {tmps : Array Value} {w : World} {g : Nat} {r : Lr.T} {x : Value} (hp : tmps.getD p undef = .pointer (some ⟨g, 0, none⟩))
    (hg : w.heap[g]? = some (.cells (Lr.rvA r) 24 (0, 0))) (hx : tmps.getD q undef = x) : (results fn tmps).run Try.prog w = .ok (.tuple #[Lr.val r, x]) w := by
  have hp' : tmps[p]?.getD undef = .pointer (some ⟨g, 0, none⟩) := by simpa using hp
  have hx' : tmps[q]?.getD undef = x := by simpa using hx
  have e1 := run_loadVar_row (P := Try.prog) w g 24 24 (Lr.rvA r) (0, 0) _ hg Try.underlying24 rfl (by rw [Lr.lrInfo]; rfl)
  simp [results, h, hp', hx', asAddr, e1]
  rfl
theorem Lr.zero_val : Lr.val ⟨0, 0, 0, 0, 0, 0, 0, 0, 0, 0, false, ⟨#[]⟩, ⟨none, 0, 0⟩⟩ = .agg #[.int .i64 0, .int .i64 0, .int .i64 0, .int .i64 0, .int .i64 0, .int .i64 0, .int .i64 0, .int .i64 0, .int .i64 0, .int .i64 0, .bool false, .string ⟨#[]⟩, .slice none 0 0] := rfl
/-- the answer where there is no letter -/
theorem Gq.void (h : Gq w u p bo n bs s g r l) (x : Int) (hx : Lr.getE bs = x) (hz : Lr.getM bs = Lr.zeroM) : Lr.GetE w bs (.returned (.tuple #[Lr.val ⟨0, 0, 0, 0, 0, 0, 0, 0, 0, 0, false, ⟨#[]⟩, ⟨none, 0, 0⟩⟩, .int .i64 x])) (Lr.lay u w.heap.size ⟨0, 0, 0, 0, 0, 0, 0, 0, 0, 0, false, ⟨#[]⟩, ⟨none, 0, 0⟩⟩) := by
  refine ⟨⟨0, 0, 0, 0, 0, 0, 0, 0, 0, 0, false, ⟨#[]⟩, ⟨none, 0, 0⟩⟩, by rw [hx], ?_, ?_, ?_, Lr.below_lay h.bel (Nat.le_refl _) _⟩
  · rw [hz]
    rfl
  · rw [hz]
    exact Et.own_nil _ _
  · rw [hz]
    intro x hx
    cases hx
/-- the answer where there is one -/
theorem Gq.got (h : Gq w u p bo n bs s g r l) {M : Lr.M} (hl : l = M.ents) (hx : Lr.getE bs = 0) (hz : Lr.getM bs = M) (hr : Lr.m r M.ents = M) (hs : ∀ e ∈ l, Et.Short e) : Lr.GetE w bs (.returned (.tuple #[Lr.val r, .int .i64 0])) (Lr.lay u w.heap.size r) := by
  subst hl
  refine ⟨r, by rw [hx], by rw [hz, hr], ?_, by rw [hz]; exact hs, Lr.below_lay h.bel (Nat.le_refl _) _⟩
  rw [hz]
  exact Et.own_mono (Lr.own_lay h.own (Nat.lt_succ_of_lt h.lt) _) (by have := h.lt; omega)
end
theorem lpack_read (bs : List UInt8) (ao : Option Addr) (m cap : Nat) (w : World) (hL : By.Ls w ao m cap bs) (hm : m ≤ 140737488355328) :
    Calls Try.prog 27 #[.slice ao m cap] w fun e w' => (∃ p bo, e = .returned (.pointer (some ⟨p, 0, none⟩)) ∧ w.heap.size ≤ p ∧ Rd w' p bo m m bs ⟨0, 0⟩) ∧ Below w.heap.size w w' := by
  have hmk := By.make m (by omega)
  have hb0 := By.block_made w m
  have hB1 := (Below.refl w.heap.size w).alloc (Nat.le_refl _) (.cells (By.zeros m) 5)
  obtain ⟨W1, hcp, hblk, hbel, hsz⟩ := By.copy (w.alloc (.cells (By.zeros m) 5)) w.heap.size 0 [] [] m ao m cap bs (by simpa using hb0) rfl hL.len (hL.below hB1).seg (some ⟨w.heap.size, 0, none⟩) (fun _ => rfl)
  rw [List.length_nil, Nat.add_zero] at hcp
  rw [List.nil_append, List.append_nil] at hblk
  have HB1 := Lib.hid (hbel _ _ hB1 (Nat.le_refl _))
  have HBk := Lib.hid hblk
  have HLen := Lib.hid hL.len
  have hcap := hL.reach
  have hs1 : W1.heap.size = w.heap.size + 1 := by rw [hsz]; simp
  clear hL hb0 hblk hbel hB1 hsz
  go_enter Try.func27, Try.ntmps27
  go_wp2
  go_ret
  have bx : Below W1.heap.size W1 (W1.alloc (.cells #[.slice (some ⟨w.heap.size, 0, none⟩) m m, .int .i64 0, .int .i64 0] 73)) := (Below.refl _ _).alloc (Nat.le_refl _) _
  have hls := (HBk.out.ls (by rw [← HLen.out]; omega)).below bx
  rw [← HLen.out] at hls
  refine ⟨⟨w.heap.size + 1, some ⟨w.heap.size, 0, none⟩, rfl, by omega, ?_⟩, bchain HB1.out bx⟩
  rw [← hs1]
  exact ⟨by simp [go_sem], by simp [go_sem], by simp [go_sem], fun o => by simp [go_sem], hls, fun b off e => by cases e; omega, by show 0 ≤ m; omega⟩
set_option maxHeartbeats 2000000 in
theorem lt_get (bs : List UInt8) (ao : Option Addr) (n cap : Nat) (w : World) (hL : By.Ls w ao n cap bs) (hm : n ≤ 140737488355328) : Calls Try.prog 10 #[.slice ao n cap] w (Lr.GetE w bs) := by
  obtain ⟨w0, hw0⟩ : ∃ U, w.alloc (.cells #[.int .i64 0, .int .i64 0, .int .i64 0, .int .i64 0, .int .i64 0, .int .i64 0, .int .i64 0, .int .i64 0, .int .i64 0, .int .i64 0, .bool false, .string ⟨#[]⟩, .slice none 0 0] 24) = U := ⟨_, rfl⟩
  have hb0 : Below w.heap.size w w0 := hw0 ▸ (Below.refl _ _).alloc (Nat.le_refl _) _
  have HB0 := Lib.hid hb0
  have HL := Lib.hid (hL.below hb0)
  have HRs : Hid (w0.heap[w.heap.size]? = some (.cells #[.int .i64 0, .int .i64 0, .int .i64 0, .int .i64 0, .int .i64 0, .int .i64 0, .int .i64 0, .int .i64 0, .int .i64 0, .int .i64 0, .bool false, .string ⟨#[]⟩, .slice none 0 0] 24 (0, 0))) := Lib.hid (hw0 ▸ heap_alloc_new w _)
  have hs0 : w0.heap.size = w.heap.size + 1 := by rw [← hw0]; simp
  have HS0 := Lib.hid hs0
  have hcap := hL.reach
  have hfit := hL.fits
  clear hL hb0 hs0
  go_enter Try.func10, Try.ntmps10
  go_wp2_with fail
  try rw [hw0]
  clear hw0
  refine (lpack_read bs ao n cap w0 HL.out hm).mono ?_
  rintro e w1 ⟨⟨p, bo, rfl, hp, r1⟩, b1⟩
  have HR1 := Lib.hid r1
  have HB1 := Lib.hid b1
  have HP := Lib.hid hp
  clear r1 b1 hp
  go_wp2_with fail
  refine (lt_read p bo n n bs Wl.s0 w1 HR1.out).mono ?_
  rintro e w2 ⟨⟨va, vn, vcp⟩, rfl, o2, r2, k2⟩
  have HRM : Hid (Lr.m (Lr.rT bs Wl.s0 ⟨va, vn, vcp⟩) (Lr.rM bs Wl.s0).ents = Lr.rM bs Wl.s0) := Lib.hid rfl
  have HEn : Hid ((Lr.rT bs Wl.s0 ⟨va, vn, vcp⟩).ents = ⟨va, vn, vcp⟩) := Lib.hid rfl
  have HGE : Hid (Lr.getE bs = if (rEnd bs (Lr.eM bs Wl.s0)).1 ≠ 0 then (rEnd bs (Lr.eM bs Wl.s0)).1 else if Lr.rightB (Lr.rM bs Wl.s0) = true then 0 else 4) := Lib.hid rfl
  have HGM : Hid (Lr.getM bs = if (rEnd bs (Lr.eM bs Wl.s0)).1 = 0 ∧ Lr.rightB (Lr.rM bs Wl.s0) = true then Lr.rM bs Wl.s0 else Lr.zeroM) := Lib.hid rfl
  have HSh : Hid (∀ e ∈ (Lr.rM bs Wl.s0).ents, Et.Short e) := Lib.hid (Lr.ents_short bs _ _)
  obtain ⟨R, hR⟩ : ∃ R, Lr.rT bs Wl.s0 ⟨va, vn, vcp⟩ = R := ⟨_, rfl⟩
  rw [hR] at HRM HEn ⊢
  clear hR
  generalize Lr.eM bs Wl.s0 = sE at r2 HGE HGM
  generalize Lr.rM bs Wl.s0 = M at o2 HRM HGE HGM HSh
  have hbx := Lr.below_own w2 R
  have HQ : Hid (Gq w (Lr.box w2 R) p bo n bs sE w2.heap.size R M.ents) := Lib.hid (by
    have h1 := HR1.out.c1
    have h0 := (Array.getElem?_eq_some_iff.1 HRs.out).1
    have hp := HP.out
    have hs := HS0.out
    have hu : Upd w0 p w2 := (Upd.of p HB1.out).trans k2
    have hz := hu.size
    refine ⟨r2.below hbx, bchain (hu.below w HB0.out (by omega)) hbx, ?_, ?_, ?_, by omega, by have := cell_lt h1; have := k2.size; omega⟩
    · rw [hbx.block _ (by omega), hu.block _ h0 (by omega)]
      exact HRs.out
    · exact heap_alloc_new w2 _
    · have o3 := Et.own_below (Et.own_mono o2 (cell_lt h1)) hbx
      rw [HEn.out]
      exact o3)
  clear o2 r2 k2 hbx HEn HL HR1 HB1 HP HRs HB0 HS0
  obtain ⟨w3, hw3⟩ : ∃ W, Lr.box w2 R = W := ⟨_, rfl⟩
  rw [hw3] at HQ
  unfold Lr.box at hw3
  unfold Lr.val
  obtain ⟨g, hg⟩ : ∃ g, w2.heap.size = g := ⟨_, rfl⟩
  rw [hg] at HQ
  go_wp2_with fail
  try rw [hw3]
  try rw [hg]
  refine (rd_end p bo n n bs sE _ HQ.out.rd).mono ?_
  rintro e w4 ⟨rfl, r4, k4⟩
  have HQ4 := Lib.hid (HQ.out.call r4 k4)
  clear r4 k4 hw3 hg HQ
  generalize (rEnd bs sE).2 = s5 at HQ4
  generalize (rEnd bs sE).1 = z at HGE HGM ⊢
  have hne : w.heap.size ≠ g := by
    have h1 := HQ4.out.lt
    have h2 := HQ4.out.gl
    omega
  by_cases hz : z = 0
  · subst hz
    have HLs := HQ4.out.ls HSh.out
    have HCr := Lib.hid (lt_right R M.ents w4 HLs)
    rw [HRM.out] at HCr
    unfold Lr.val at HCr
    cases hq : Lr.rightB M
    · rw [hq] at HCr HGE HGM
      have HE1 : Hid (Lr.getE bs = 4) := Lib.hid (by rw [HGE.out]; rfl)
      have HM1 : Hid (Lr.getM bs = Lr.zeroM) := Lib.hid (by rw [HGM.out]; exact if_neg (fun z => by cases z.2))
      clear hq HGE HGM HLs hne
      have c0 := HQ4.out.cellr 0
      have c1 := HQ4.out.cellr 1
      have c2 := HQ4.out.cellr 2
      have c3 := HQ4.out.cellr 3
      have c4 := HQ4.out.cellr 4
      have c5 := HQ4.out.cellr 5
      have c6 := HQ4.out.cellr 6
      have c7 := HQ4.out.cellr 7
      have c8 := HQ4.out.cellr 8
      have c9 := HQ4.out.cellr 9
      have c10 := HQ4.out.cellr 10
      have c11 := HQ4.out.cellr 11
      have c12 := HQ4.out.cellr 12
      unfold Lr.rvA at c0 c1 c2 c3 c4 c5 c6 c7 c8 c9 c10 c11 c12
      simp only [List.getElem?_toArray, List.getElem?_cons_zero, List.getElem?_cons_succ] at c0 c1 c2 c3 c4 c5 c6 c7 c8 c9 c10 c11 c12
      go_wp2_with (go_at_call 17; refine HCr.out.mono ?_)
      rintro e w5 ⟨rfl, b5⟩
      have HQ5 := Lib.hid (HQ4.out.below b5)
      clear b5 HQ4 c0 c1 c2 c3 c4 c5 c6 c7 c8 c9 c10 c11 c12
      have x0 := HQ5.out.cell 0
      have x1 := HQ5.out.cell 1
      have x2 := HQ5.out.cell 2
      have x3 := HQ5.out.cell 3
      have x4 := HQ5.out.cell 4
      have x5 := HQ5.out.cell 5
      have x6 := HQ5.out.cell 6
      have x7 := HQ5.out.cell 7
      have x8 := HQ5.out.cell 8
      have x9 := HQ5.out.cell 9
      have x10 := HQ5.out.cell 10
      have x11 := HQ5.out.cell 11
      have x12 := HQ5.out.cell 12
      have q0 := HQ5.out.fz 0
      have q1 := HQ5.out.fz 1
      have q2 := HQ5.out.fz 2
      have q3 := HQ5.out.fz 3
      have q4 := HQ5.out.fz 4
      have q5 := HQ5.out.fz 5
      have q6 := HQ5.out.fz 6
      have q7 := HQ5.out.fz 7
      have q8 := HQ5.out.fz 8
      have q9 := HQ5.out.fz 9
      have q10 := HQ5.out.fz 10
      have q11 := HQ5.out.fz 11
      have q12 := HQ5.out.fz 12
      simp only [List.getElem?_toArray, List.getElem?_cons_zero, List.getElem?_cons_succ] at x0 x1 x2 x3 x4 x5 x6 x7 x8 x9 x10 x11 x12
      go_wp2_with fail
      have hfin := Lr.heap_lay HQ5.out.res ⟨0, 0, 0, 0, 0, 0, 0, 0, 0, 0, false, ⟨#[]⟩, ⟨none, 0, 0⟩⟩
      have HF := Lib.hid (HQ5.out.void 4 HE1.out HM1.out)
      obtain ⟨W, hWl⟩ : ∃ W, Lr.lay w5 w.heap.size ⟨0, 0, 0, 0, 0, 0, 0, 0, 0, 0, false, ⟨#[]⟩, ⟨none, 0, 0⟩⟩ = W := ⟨_, rfl⟩
      rw [hWl] at hfin HF
      unfold Lr.lay at hWl
      try dsimp only at hWl
      rw [hWl]
      exact bodyPost_ret (Lr.results_lr2 Try.results10 rfl hfin rfl) rfl HF.out
    · rw [hq] at HCr HGE HGM
      have HE1 : Hid (Lr.getE bs = 0) := Lib.hid (by rw [HGE.out]; rfl)
      have HM1 : Hid (Lr.getM bs = M) := Lib.hid (by rw [HGM.out]; exact if_pos ⟨rfl, rfl⟩)
      clear hq HGE HGM HLs
      have c0 := HQ4.out.cellr 0
      have c1 := HQ4.out.cellr 1
      have c2 := HQ4.out.cellr 2
      have c3 := HQ4.out.cellr 3
      have c4 := HQ4.out.cellr 4
      have c5 := HQ4.out.cellr 5
      have c6 := HQ4.out.cellr 6
      have c7 := HQ4.out.cellr 7
      have c8 := HQ4.out.cellr 8
      have c9 := HQ4.out.cellr 9
      have c10 := HQ4.out.cellr 10
      have c11 := HQ4.out.cellr 11
      have c12 := HQ4.out.cellr 12
      unfold Lr.rvA at c0 c1 c2 c3 c4 c5 c6 c7 c8 c9 c10 c11 c12
      simp only [List.getElem?_toArray, List.getElem?_cons_zero, List.getElem?_cons_succ] at c0 c1 c2 c3 c4 c5 c6 c7 c8 c9 c10 c11 c12
      go_wp2_with (go_at_call 17; refine HCr.out.mono ?_)
      rintro e w5 ⟨rfl, b5⟩
      have HQ5 := Lib.hid (HQ4.out.below b5)
      clear b5 HQ4 c0 c1 c2 c3 c4 c5 c6 c7 c8 c9 c10 c11 c12
      have c0 := HQ5.out.cellr 0
      have c1 := HQ5.out.cellr 1
      have c2 := HQ5.out.cellr 2
      have c3 := HQ5.out.cellr 3
      have c4 := HQ5.out.cellr 4
      have c5 := HQ5.out.cellr 5
      have c6 := HQ5.out.cellr 6
      have c7 := HQ5.out.cellr 7
      have c8 := HQ5.out.cellr 8
      have c9 := HQ5.out.cellr 9
      have c10 := HQ5.out.cellr 10
      have c11 := HQ5.out.cellr 11
      have c12 := HQ5.out.cellr 12
      unfold Lr.rvA at c0 c1 c2 c3 c4 c5 c6 c7 c8 c9 c10 c11 c12
      simp only [List.getElem?_toArray, List.getElem?_cons_zero, List.getElem?_cons_succ] at c0 c1 c2 c3 c4 c5 c6 c7 c8 c9 c10 c11 c12
      have x0 := HQ5.out.cell 0
      have x1 := HQ5.out.cell 1
      have x2 := HQ5.out.cell 2
      have x3 := HQ5.out.cell 3
      have x4 := HQ5.out.cell 4
      have x5 := HQ5.out.cell 5
      have x6 := HQ5.out.cell 6
      have x7 := HQ5.out.cell 7
      have x8 := HQ5.out.cell 8
      have x9 := HQ5.out.cell 9
      have x10 := HQ5.out.cell 10
      have x11 := HQ5.out.cell 11
      have x12 := HQ5.out.cell 12
      have q0 := HQ5.out.fz 0
      have q1 := HQ5.out.fz 1
      have q2 := HQ5.out.fz 2
      have q3 := HQ5.out.fz 3
      have q4 := HQ5.out.fz 4
      have q5 := HQ5.out.fz 5
      have q6 := HQ5.out.fz 6
      have q7 := HQ5.out.fz 7
      have q8 := HQ5.out.fz 8
      have q9 := HQ5.out.fz 9
      have q10 := HQ5.out.fz 10
      have q11 := HQ5.out.fz 11
      have q12 := HQ5.out.fz 12
      simp only [List.getElem?_toArray, List.getElem?_cons_zero, List.getElem?_cons_succ] at x0 x1 x2 x3 x4 x5 x6 x7 x8 x9 x10 x11 x12
      go_wp2_with fail
      have hfin := Lr.heap_lay HQ5.out.res R
      have HF := Lib.hid (HQ5.out.got rfl HE1.out HM1.out HRM.out HSh.out)
      obtain ⟨W, hWl⟩ : ∃ W, Lr.lay w5 w.heap.size R = W := ⟨_, rfl⟩
      rw [hWl] at hfin HF
      unfold Lr.lay at hWl
      try dsimp only at hWl
      rw [hWl]
      exact bodyPost_ret (Lr.results_lr2 Try.results10 rfl hfin rfl) rfl HF.out
  · have HE1 : Hid (Lr.getE bs = z) := Lib.hid (by rw [HGE.out]; exact if_pos hz)
    have HM1 : Hid (Lr.getM bs = Lr.zeroM) := Lib.hid (by rw [HGM.out]; exact if_neg (fun q => hz q.1))
    have qz : (z != 0) = true := bne_iff_ne.2 hz
    clear hz HGE HGM hne
    have x0 := HQ4.out.cell 0
    have x1 := HQ4.out.cell 1
    have x2 := HQ4.out.cell 2
    have x3 := HQ4.out.cell 3
    have x4 := HQ4.out.cell 4
    have x5 := HQ4.out.cell 5
    have x6 := HQ4.out.cell 6
    have x7 := HQ4.out.cell 7
    have x8 := HQ4.out.cell 8
    have x9 := HQ4.out.cell 9
    have x10 := HQ4.out.cell 10
    have x11 := HQ4.out.cell 11
    have x12 := HQ4.out.cell 12
    have q0 := HQ4.out.fz 0
    have q1 := HQ4.out.fz 1
    have q2 := HQ4.out.fz 2
    have q3 := HQ4.out.fz 3
    have q4 := HQ4.out.fz 4
    have q5 := HQ4.out.fz 5
    have q6 := HQ4.out.fz 6
    have q7 := HQ4.out.fz 7
    have q8 := HQ4.out.fz 8
    have q9 := HQ4.out.fz 9
    have q10 := HQ4.out.fz 10
    have q11 := HQ4.out.fz 11
    have q12 := HQ4.out.fz 12
    simp only [List.getElem?_toArray, List.getElem?_cons_zero, List.getElem?_cons_succ] at x0 x1 x2 x3 x4 x5 x6 x7 x8 x9 x10 x11 x12
    go_wp2_with fail
    have hfin := Lr.heap_lay HQ4.out.res ⟨0, 0, 0, 0, 0, 0, 0, 0, 0, 0, false, ⟨#[]⟩, ⟨none, 0, 0⟩⟩
    have HF := Lib.hid (HQ4.out.void z HE1.out HM1.out)
    obtain ⟨W, hWl⟩ : ∃ W, Lr.lay w4 w.heap.size ⟨0, 0, 0, 0, 0, 0, 0, 0, 0, 0, false, ⟨#[]⟩, ⟨none, 0, 0⟩⟩ = W := ⟨_, rfl⟩
    rw [hWl] at hfin HF
    unfold Lr.lay at hWl
    try dsimp only at hWl
    rw [hWl]
    exact bodyPost_ret (Lr.results_lr2 Try.results10 rfl hfin rfl) rfl HF.out
end Go.Proofs.Ytagjbjppddbalaa
