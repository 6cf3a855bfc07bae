/- CONTRACTS OF PACKAGE letter: entries, read; a reader's Flag. (By genltf.py.) -/
import Derived.Test.YtagjbjppddbalaaLtE
import Derived.Test.YtagjbjppddbalaaPkV
set_option maxRecDepth 100000
set_option linter.unusedVariables false
namespace Go.Proofs.Ytagjbjppddbalaa
open Go.RowKit
open Mem Pk

theorem By.Ls.updN {w w' : World} {p : Nat} {ao : Option Addr} {n cap : Nat} {rs : List UInt8} (h : By.Ls w ao n cap rs) (k : Upd w p w') (hp : 0 < n → ∀ b off, ao = some ⟨b, off, none⟩ → b ≠ p) : By.Ls w' ao n cap rs := by
  by_cases h0 : 0 < n
  · exact h.upd k (hp h0)
  · have e : rs = [] := List.length_eq_zero_iff.1 (by rw [← h.len]; omega)
    exact ⟨h.len, h.fits, h.reach, h.nil, .inl e⟩
/-- a block that a reader doesn't lie in -/
structure Off (p q n : Nat) (ao : Option Addr) : Prop where
  ne : q ≠ p
  bytes : 0 < n → ∀ b off, ao = some ⟨b, off, none⟩ → b ≠ q
theorem Rd.off {w : World} {p : Nat} {ao : Option Addr} {n cap : Nat} {bs : List UInt8} {s : St} (h : Rd w p ao n cap bs s) {q : Nat} (hq : w.heap.size ≤ q) : Off p q n ao := by
  have hl := cell_lt h.c0
  refine ⟨by omega, fun h0 b off e => ?_⟩
  subst e
  have := cell_lt (h.ls.row 0 (by rw [← h.ls.len]; exact h0))
  omega
theorem Rd.other {u : World} {p q o n cap : Nat} {ao : Option Addr} {bs : List UInt8} {s : St} (h : Rd u p ao n cap bs s) (k : Off p q n ao) (x : Value) : Rd (u.setCell ⟨q, o, none⟩ x) p ao n cap bs s := by
  have U : Upd u q (u.setCell ⟨q, o, none⟩ x) := Upd.set x
  have hl := cell_lt h.c0
  have hp : p ≠ q := fun e => k.ne e.symm
  exact ⟨by rw [U.cell _ _ hl hp]; exact h.c0, by rw [U.cell _ _ hl hp]; exact h.c1, by rw [U.cell _ _ hl hp]; exact h.c2, fun o => by rw [U.frozen _ _ hl]; exact h.fz o, h.ls.updN U k.bytes, h.apart, h.place⟩
set_option maxHeartbeats 1000000 in
theorem lrd_flag (p : Nat) (ao : Option Addr) (n cap : Nat) (bs : List UInt8) (s : St) (w : World) (hR : Rd w p ao n cap bs s) :
    Calls Try.prog 48 #[.pointer (some ⟨p, 0, none⟩)] w fun e w' => e = .returned (.bool (Lr.rFlag bs s).1) ∧ Rd w' p ao n cap bs (Lr.rFlag bs s).2 ∧ Upd w p w' := by
  have HR := Lib.hid hR
  have hpl := hR.place
  have c1 := hR.c1
  clear hR
  go_enter Try.func48, Try.ntmps48
  go_wp2_with fail
  refine (rd_num p ao n cap bs s w HR.out).mono ?_
  rintro e w1 ⟨rfl, hR1, hU1⟩
  have HR1 := Lib.hid hR1
  have HU1 := Lib.hid hU1
  clear hR1 hU1 c1
  obtain ⟨v, s1, hv⟩ : ∃ v s1, rNum bs s = (v, s1) := ⟨_, _, rfl⟩
  have HV := Lib.hid hv
  rw [hv] at HR1
  rw [hv]
  dsimp only at HR1 ⊢
  clear hv
  by_cases h0 : v = 0
  · subst h0
    have HN : Hid (Lr.rFlag bs s = (false, s1)) := Lib.hid (by unfold Lr.rFlag; rw [HV.out]; rfl)
    go_wp2_with fail
    go_ret
    exact ⟨by rw [HN.out]; rfl, by rw [HN.out]; exact HR1.out, HU1.out⟩
  · by_cases h1 : v = 1
    · subst h1
      have HN : Hid (Lr.rFlag bs s = (true, s1)) := Lib.hid (by unfold Lr.rFlag; rw [HV.out]; rfl)
      go_wp2_with fail
      go_ret
      exact ⟨by rw [HN.out]; rfl, by rw [HN.out]; exact HR1.out, HU1.out⟩
    · have HN : Hid (Lr.rFlag bs s = (false, ⟨s.at', 4⟩)) := Lib.hid (by unfold Lr.rFlag; rw [HV.out]; exact if_pos ⟨h0, h1⟩)
      have q0 : (v != 0) = true := bne_iff_ne.2 h0
      have q1 : (v != 1) = true := bne_iff_ne.2 h1
      clear h0 h1
      go_wp2_with fail
      refine (rd_refuse p ao n cap bs s1 s.at' 4 w1 HR1.out hpl).mono ?_
      rintro e w2 ⟨rfl, hR2, hU2⟩
      have HR2 := Lib.hid hR2
      have HU2 := Lib.hid (HU1.out.trans hU2)
      clear hR2 hU2
      go_wp2_with fail
      go_ret
      exact ⟨by rw [HN.out]; rfl, by rw [HN.out]; exact HR2.out, HU2.out⟩
theorem rows_upd {w u : World} {p B e k : Nat} {v : Value} {n : Nat} {xs : List Value} (h : w.ownsRow B e k v n xs) (q : Upd w p u) (hp : p < B) : u.ownsRow B e k v n xs := by
  obtain ⟨h1, h2⟩ := h
  refine ⟨h1, ?_⟩
  rcases h2 with h2 | ⟨g, cap, cur, h', hb, hg, h3⟩
  · exact .inl h2
  · exact .inr ⟨g, cap, cur, h', hb, (q.block g (Array.getElem?_eq_some_iff.1 hg).1 (by omega)).trans hg, h3⟩
theorem rows_slice {w : World} {B e k : Nat} {v : Value} {n : Nat} {xs : List Value} (h : w.ownsRow B e k v n xs) : ∃ ao cap, v = .slice ao n cap := by
  rcases h.2 with ⟨h', h2⟩ | ⟨g', cap', cur, h', _⟩
  · exact ⟨none, 0, by rw [h', h2]⟩
  · exact ⟨_, _, h'⟩
theorem Upd.grown {w u v : World} {p : Nat} {row : Option Nat} (h : Upd w p u) (gr : u.grownBy v row) (hr : ∀ k, row = some k → w.heap.size ≤ k ∧ k < u.heap.size) : Upd w p v := by
  refine ⟨Nat.le_trans h.size gr.size, fun b o hb hp => ?_, fun b o hb => ?_, fun w0 a c => ?_, fun b hb hp => ?_⟩
  · rw [World.cell?_of_block (gr.block b (Nat.lt_of_lt_of_le hb h.size) (fun e => by have := (hr b e.symm).1; omega)), h.cell b o hb hp]
  · rw [World.frozen?_of_block (gr.block b (Nat.lt_of_lt_of_le hb h.size) (fun e => by have := (hr b e.symm).1; omega)), h.frozen b o hb]
  · have hb := h.below w0 a c
    exact hb.grown gr hb.size (fun k e => by have := (hr k e).1; have := a.size; omega)
  · rw [gr.block b (Nat.lt_of_lt_of_le hb h.size) (fun e => by have := (hr b e.symm).1; omega), h.block b hb hp]
theorem Rd.grown {u v : World} {p n cap : Nat} {ao : Option Addr} {bs : List UInt8} {s : St} {row : Option Nat} (h : Rd u p ao n cap bs s) (gr : u.grownBy v row) (k : ∀ q, row = some q → Off p q n ao) : Rd v p ao n cap bs s := by
  have hl := cell_lt h.c0
  have hb : v.heap[p]? = u.heap[p]? := gr.block p hl (fun e => (k p e.symm).ne rfl)
  refine ⟨(World.cell?_of_block hb).trans h.c0, (World.cell?_of_block hb).trans h.c1, (World.cell?_of_block hb).trans h.c2, fun o => (World.frozen?_of_block hb).trans (h.fz o), ?_, h.apart, h.place⟩
  refine ⟨h.ls.len, h.ls.fits, h.ls.reach, h.ls.nil, ?_⟩
  rcases h.ls.seg with e | ⟨b, off, e, hc⟩
  · exact .inl e
  · refine .inr ⟨b, off, e, fun i hi => ?_⟩
    have h0 := hc i hi
    have hn : 0 < n := by rw [h.ls.len]; omega
    exact (World.cell?_of_block (gr.block b (cell_lt h0) (fun z => (k b z.symm).bytes hn b off e rfl))).trans h0
/-- a reader beside a list that grows -/
structure Ri (w u : World) (p : Nat) (ao : Option Addr) (n cap : Nat) (bs : List UInt8) (s : St) : Prop where
  rd : Rd u p ao n cap bs s
  upd : Upd w p u
  off : ∀ q, w.heap.size ≤ q → Off p q n ao
  lt : p < w.heap.size
section
variable {w u v : World} {p n cap : Nat} {ao : Option Addr} {bs : List UInt8} {s s' : St}
theorem Ri.start (h : Rd w p ao n cap bs s) : Ri w w p ao n cap bs s := ⟨h, Upd.refl w p, fun q hq => h.off hq, cell_lt h.c0⟩
theorem Ri.call (h : Ri w u p ao n cap bs s) (r : Rd v p ao n cap bs s') (k : Upd u p v) : Ri w v p ao n cap bs s' := ⟨r, h.upd.trans k, h.off, h.lt⟩
theorem Ri.app (h : Ri w u p ao n cap bs s) {row : Option Nat} (o : Obj) (gr : (u.alloc o).grownBy v row) (hr : ∀ k, row = some k → w.heap.size ≤ k ∧ k < u.heap.size) : Ri w v p ao n cap bs s := by
  have hb : Below u.heap.size u (u.alloc o) := (Below.refl _ _).alloc (Nat.le_refl _) o
  have hU : Upd w p (u.alloc o) := h.upd.trans (Upd.of p hb)
  exact ⟨(h.rd.below hb).grown gr fun q e => h.off q (hr q e).1, hU.grown gr fun k e => ⟨(hr k e).1, Nat.lt_of_lt_of_le (hr k e).2 hb.size⟩, h.off, h.lt⟩
end
theorem Lr.count_most (bs : List UInt8) (most : Int) (s : St) : (rCount bs most s).1 ≤ most ∨ (rCount bs most s).1 = 0 := by
  unfold rCount
  split
  · exact .inr rfl
  · unfold rWithin
    split
    · exact .inr rfl
    · split
      · exact .inr rfl
      · rename_i h
        exact .inl (by omega)
theorem Lr.ents_snoc (bs : List UInt8) : ∀ (k : Nat) (s : St), (Lr.rEnts bs (k + 1) s).1 = (Lr.rEnts bs k s).1 ++ [(Lr.rEnt bs (Lr.rEnts bs k s).2).1] ∧ (Lr.rEnts bs (k + 1) s).2 = (Lr.rEnt bs (Lr.rEnts bs k s).2).2
  | 0, s => ⟨rfl, rfl⟩
  | k + 1, s => by
    obtain ⟨h1, h2⟩ := Lr.ents_snoc bs k (Lr.rEnt bs s).2
    rw [Lr.rEnts, h1, h2, Lr.rEnts]
    exact ⟨rfl, rfl⟩
theorem Lr.ents_len (bs : List UInt8) : ∀ (k : Nat) (s : St), (Lr.rEnts bs k s).1.length = k
  | 0, s => rfl
  | k + 1, s => by
    rw [Lr.rEnts, List.length_cons, Lr.ents_len bs k]
set_option maxHeartbeats 2000000 in
theorem lt_entries (p : Nat) (ao : Option Addr) (n cap : Nat) (bs : List UInt8) (s : St) (w : World) (hR : Rd w p ao n cap bs s) :
    Calls Try.prog 50 #[.pointer (some ⟨p, 0, none⟩)] w fun e w' => ∃ v, e = .returned v ∧ Et.Own w' w.heap.size v (Lr.rEnts bs (rCount bs 8 s).1.toNat (rCount bs 8 s).2).1 ∧ Rd w' p ao n cap bs (Lr.rEnts bs (rCount bs 8 s).1.toNat (rCount bs 8 s).2).2 ∧ Upd w p w' := by
  have HI0 := Lib.hid (Ri.start hR)
  clear hR
  go_enter Try.func50, Try.ntmps50
  go_wp2_with fail
  refine (rd_count p ao n cap bs 8 s w HI0.out.rd).mono ?_
  rintro e w1 ⟨rfl, r1, k1⟩
  have HP := Lib.hid (rCount_pos bs 8 s)
  have HMx : Hid ((rCount bs 8 s).1 ≤ 8) := Lib.hid (by have h := Lr.count_most bs 8 s; rcases h with h | h <;> omega)
  obtain ⟨c, s1, hv⟩ : ∃ c s1, rCount bs 8 s = (c, s1) := ⟨_, _, rfl⟩
  have HV := Lib.hid hv
  rw [hv] at r1 HP HMx ⊢
  dsimp only at r1 HP HMx ⊢
  obtain ⟨N, hN⟩ : ∃ N : Nat, c = (N : Int) := ⟨c.toNat, by have := HP.out; omega⟩
  subst hN
  have HI1 := Lib.hid (HI0.out.call r1 k1)
  have hN1 : N ≤ 8 := by have := HMx.out; omega
  clear r1 k1 hv
  go_wp2_with fail
  go_loopw [3, 6] (fun t j wr => ∃ (k : Nat) (vo : Option Addr) (q vc : Nat), k ≤ N ∧ j = .int .i64 k ∧ t = .slice vo q vc ∧ Hid (Ri w wr p ao n cap bs (Lr.rEnts bs k s1).2) ∧ Hid (Et.Own wr w.heap.size (.slice vo q vc) (Lr.rEnts bs k s1).1)) (fun _ j _ => N - (intOf j).toNat)
  case atStart => exact ⟨0, none, 0, 0, by omega, rfl, rfl, HI1, Lib.hid (Et.own_nil _ _)⟩
  case round =>
    clear HI1
    rename World => wz
    obtain ⟨k, vo, q, vc, hk, rfl, rfl, HI, HO⟩ := hrel
    by_cases hlt : k < N
    · have HSn := Lib.hid (Lr.ents_snoc bs k s1)
      have HLn := Lib.hid (Lr.ents_len bs k s1)
      generalize Lr.rEnts bs k s1 = rk at HI HO HSn HLn
      obtain ⟨L, sk⟩ := rk
      dsimp only at HI HO HSn HLn
      go_wp2_with fail
      refine (rd_num p ao n cap bs sk wz HI.out.rd).mono ?_
      rintro e w2 ⟨rfl, r2, k2⟩
      have HI2 := Lib.hid (HI.out.call r2 k2)
      have HO2 := Lib.hid (rows_upd HO.out k2 (by have := HI.out.lt; omega))
      obtain ⟨x1, s2, hx1⟩ : ∃ x s, rNum bs sk = (x, s) := ⟨_, _, rfl⟩
      have HX1 := Lib.hid hx1
      rw [hx1] at HI2 ⊢
      dsimp only at HI2 ⊢
      clear r2 k2 hx1 HO
      go_wp2_with fail
      refine (rd_num p ao n cap bs s2 w2 HI2.out.rd).mono ?_
      rintro e w3 ⟨rfl, r3, k3⟩
      have HI3 := Lib.hid (HI2.out.call r3 k3)
      have HO3 := Lib.hid (rows_upd HO2.out k3 (by have := HI2.out.lt; omega))
      obtain ⟨x2, s3, hx2⟩ : ∃ x s, rNum bs s2 = (x, s) := ⟨_, _, rfl⟩
      have HX2 := Lib.hid hx2
      rw [hx2] at HI3 ⊢
      dsimp only at HI3 ⊢
      clear r3 k3 hx2 HO2
      go_wp2_with fail
      refine (rd_text p ao n cap bs 1100 s3 w3 HI3.out.rd).mono ?_
      rintro e w4 ⟨rfl, r4, k4⟩
      have HI4 := Lib.hid (HI3.out.call r4 k4)
      have HO4 := Lib.hid (rows_upd HO3.out k4 (by have := HI3.out.lt; omega))
      obtain ⟨x3, s4, hx3⟩ : ∃ x s, rText bs 1100 s3 = (x, s) := ⟨_, _, rfl⟩
      have HX3 := Lib.hid hx3
      rw [hx3] at HI4 ⊢
      dsimp only at HI4 ⊢
      clear r4 k4 hx3 HO3
      have HRe : Hid (Lr.rEnt bs sk = (⟨x1, x2, x3⟩, s4)) := Lib.hid (by
        unfold Lr.rEnt
        rw [HX1.out]
        dsimp only
        rw [HX2.out]
        dsimp only
        rw [HX3.out])
      rw [HRe.out] at HSn
      dsimp only at HSn
      go_wp2_with (at_builtin; go_must (refine Et.wpList_append _ rfl (.tmp 8) (.tmp 16) rfl w.heap.size (.slice vo q vc) L rfl (Et.own_alloc HO4.out _) (some ⟨w4.heap.size, 0, none⟩) 1 1 [⟨x1, x2, x3⟩] rfl rfl (fun h => by cases h) (Et.seg_block (heap_alloc_new w4 _)) (by have := HLn.out; omega) (by have := HI4.out.upd.size; simp; omega) ?_))
      intro v3 w5 o3 gr3 _
      obtain ⟨va, vcp, hv3⟩ := rows_slice o3
      subst hv3
      have HI5 := Lib.hid (HI4.out.app _ gr3 (World.ownsRow.lt HO4.out))
      have HO5 := Lib.hid o3
      clear gr3 o3
      go_wp2_with fail
      go_roundw
      case rel =>
        refine ⟨k + 1, _, _, _, by omega, by go_num, rfl, Lib.hid ?_, Lib.hid ?_⟩
        · rw [HSn.out.2]
          exact HI5.out
        · rw [HSn.out.1]
          exact HO5.out
      case measure => simp [intOf]; omega
    · obtain rfl : k = N := by omega
      go_wp2_with fail
      go_ret
      rw [HV.out]
      dsimp only
      rw [Int.toNat_natCast]
      exact ⟨_, rfl, HO.out, HI.out.rd, HI.out.upd⟩
end Go.Proofs.Ytagjbjppddbalaa
