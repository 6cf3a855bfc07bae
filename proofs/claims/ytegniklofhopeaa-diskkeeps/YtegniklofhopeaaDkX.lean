/- CONTRACTS OF PACKAGE disk: a file's tear. -/
import Derived.Test.YtegniklofhopeaaDkD
import Derived.BigQuiet
set_option maxRecDepth 100000
set_option linter.unusedVariables false
namespace Go.Proofs.Ytegniklofhopeaa
open Go.RowKit
open Mem Dk

theorem By.own_last {w : World} {B : Nat} {s : Sl} {xs : List UInt8} (h : By.Own w B (sl s) xs) (hl : 0 < xs.length) : ∃ b, s.ao = some ⟨b, 0, none⟩ ∧ (sl s).ownBlock = some b ∧ w.cell? ⟨b, xs.length - 1, none⟩ = some (bv (xs.getLast?.getD 0)) ∧ w.frozen? ⟨b, xs.length - 1, none⟩ = false ∧ ∀ y, By.Own (w.setCell ⟨b, xs.length - 1, none⟩ (bv y)) B (sl s) (xs.set (xs.length - 1) y) := by
  obtain ⟨ao, n, cap⟩ := s
  rcases h.2 with ⟨_, e⟩ | ⟨g, cap', cur, e, hB, hg, hn, hc, hs, ht⟩
  · omega
  · have e' := e
    unfold sl at e
    simp only [Value.slice.injEq] at e
    obtain ⟨rfl, rfl, rfl⟩ := e
    have hx : xs.getLast?.getD 0 = xs[xs.length - 1]'(by omega) := by
      rw [List.getLast?_eq_getElem?, List.getElem?_eq_getElem (by omega)]
      rfl
    refine ⟨g, rfl, rfl, ?_, frozen_of_row w g _ _ _ hg, fun y => ⟨by simp, .inr ⟨g, cap, _, by rw [List.length_set]; rfl, hB, heap_setCell_same w g _ _ _ (bv y) hg, by rw [List.length_set]; exact hn, hc, by simpa using hs, ?_⟩⟩⟩
    · rw [cell_of_row w g _ _ _ _ hg, hx]
      have h1 : (cur.toList.take (xs.length * 1))[xs.length - 1]? = some (bv (xs[xs.length - 1]'(by omega))) := by
        rw [ht, List.getElem?_map, List.getElem?_eq_getElem (by omega)]
        rfl
      rw [List.getElem?_take_of_lt (by omega), Array.getElem?_toList] at h1
      exact h1
    · rw [List.length_set, List.map_set, ← ht, Array.toList_setIfInBounds, List.take_set]
theorem Dk.xor_all : (List.range 256).all (fun n => bits BinOp.xor IntKind.u8 (n : Int) 255 == (((UInt8.ofNat n) ^^^ 255).toNat : Int)) = true := by kernel_rfl
theorem Dk.xor_byte (y : UInt8) : bits BinOp.xor IntKind.u8 (y.toNat : Int) 255 = ((y ^^^ 255).toNat : Int) := by
  have h := List.all_eq_true.1 Dk.xor_all y.toNat (List.mem_range.2 y.toNat_lt)
  rw [beq_iff_eq, UInt8.ofNat_toNat] at h
  exact h
theorem Dk.tear_len (f : F) (h : f.kept ≤ f.bs.length) (p : Nat) : f.kept + p % (f.bs.length - f.kept + 1) ≤ f.bs.length := by
  have := Nat.mod_lt p (show 0 < f.bs.length - f.kept + 1 by omega)
  omega
/-- a row with its first bytes alone, all of them kept -/
theorem Dk.tear_no {f : F} {p : Nat} (h : f.kept ≤ f.bs.length) (hn : ¬ (0 < p % (f.bs.length - f.kept + 1) ∧ p / (f.bs.length - f.kept + 1) % 2 = 1)) : tear f p = ⟨f.name, f.bs.take (f.kept + p % (f.bs.length - f.kept + 1)), f.kept + p % (f.bs.length - f.kept + 1)⟩ := by
  have hl : (f.bs.take (f.kept + p % (f.bs.length - f.kept + 1))).length = f.kept + p % (f.bs.length - f.kept + 1) := by rw [List.length_take, Nat.min_eq_left (tear_len f h p)]
  unfold tear
  simp only
  rw [if_neg hn, hl]
theorem Dk.tear_yes {f : F} {p : Nat} (h : f.kept ≤ f.bs.length) (hn : 0 < p % (f.bs.length - f.kept + 1) ∧ p / (f.bs.length - f.kept + 1) % 2 = 1) : tear f p = ⟨f.name, flip (f.bs.take (f.kept + p % (f.bs.length - f.kept + 1))), f.kept + p % (f.bs.length - f.kept + 1)⟩ := by
  have hl : (f.bs.take (f.kept + p % (f.bs.length - f.kept + 1))).length = f.kept + p % (f.bs.length - f.kept + 1) := by rw [List.length_take, Nat.min_eq_left (tear_len f h p)]
  unfold tear
  simp only
  rw [if_pos hn]
  have h2 : (flip (f.bs.take (f.kept + p % (f.bs.length - f.kept + 1)))).length = f.kept + p % (f.bs.length - f.kept + 1) := by
    unfold flip
    rw [List.length_set, hl]
  rw [h2]
def Dk.TearE (w : World) (g n cap : Nat) (M : List Fl.T) (k : Nat) (r : Fl.T) (f : F) (e : Ending) (w' : World) : Prop :=
  e = .returned (.tuple #[]) ∧ ∃ r', Fl.Own w' 0 (.slice (some ⟨g, 0, none⟩) n cap) (M.set k r') ∧ One w' r' f ∧ (sl r'.bytes).ownBlock = (sl r.bytes).ownBlock ∧ UpdQ (fun b => b = g ∨ (sl r.bytes).ownBlock = some b) w w'
set_option maxHeartbeats 1000000 in
theorem fl_tear (w : World) (g n cap : Nat) (M : List Fl.T) (k : Nat) (h : Fl.Own w 0 (.slice (some ⟨g, 0, none⟩) n cap) M) (hk : k < M.length) (f : F) (one : One w M[k] f) (hkp : f.kept ≤ f.bs.length) (hbl : f.bs.length ≤ 4194304) (hap : ∀ b, (sl M[k].bytes).ownBlock = some b → b ≠ g) (pick : Nat) (hp : pick ≤ 9223372036854775807) :
    Calls Try.prog 41 #[.pointer (some ⟨g, k * 3, none⟩), .int .i64 (pick : Int)] w (TearE w g n cap M k M[k] (tear f pick)) := by
  obtain ⟨wy, hwy⟩ : ∃ wy, f.bs.length - f.kept + 1 = wy := ⟨_, rfl⟩
  obtain ⟨st, hst⟩ : ∃ st, pick % wy = st := ⟨_, rfl⟩
  obtain ⟨q, hq⟩ : ∃ q, pick / wy = q := ⟨_, rfl⟩
  have hon := (Dk.own_n one.own).1
  have hlen := tear_len f hkp pick
  rw [hwy, hst] at hlen
  have hstw : st < wy := hst ▸ Nat.mod_lt _ (by omega)
  have hhead := By.own_head one.own (f.kept + st) hlen
  have hd : Below w.heap.size w w.drew := (Below.refl _ _).drew
  have hsh := fl_shorten w.drew g n cap M k (f.kept + st) (Fl.own_drew h) hk hhead.2.2 f.kept one.kept
  have hmin : min f.kept (f.kept + st) = f.kept := Nat.min_eq_left (by omega)
  rw [hmin] at hsh
  obtain ⟨W2, hW2⟩ : ∃ W2, (w.drew.setCell ⟨g, k * 3 + 1, none⟩ (.slice M[k].bytes.ao (f.kept + st) M[k].bytes.cap)).setCell ⟨g, k * 3 + 2, none⟩ (.int .i64 (f.kept : Int)) = W2 := ⟨_, rfl⟩
  rw [hW2] at hsh
  have hO2 := Fl.own_put2 (Fl.own_drew h) k hk ⟨M[k].bytes.ao, f.kept + st, M[k].bytes.cap⟩ (f.kept : Int)
  simp only at hO2
  rw [hW2] at hO2
  have u2 : UpdQ (fun b => b = g) w W2 := by
    rw [← hW2]
    exact ((UpdQ.of hd).trans (UpdQ.set (Q := fun b => b = g) w.drew rfl _ _)).trans (UpdQ.set (Q := fun b => b = g) _ rfl _ _)
  have hB2 : By.Own W2 0 (sl ⟨M[k].bytes.ao, f.kept + st, M[k].bytes.cap⟩) (f.bs.take (f.kept + st)) := u2.rows hhead.1 fun b e z => hap b (hhead.2.1 ▸ e) z
  have hl2 : (f.bs.take (f.kept + st)).length = f.kept + st := by rw [List.length_take, Nat.min_eq_left hlen]
  have hk2 : k < (M.set k ⟨M[k].name, ⟨M[k].bytes.ao, f.kept + st, M[k].bytes.cap⟩, (f.kept : Int)⟩).length := by rw [List.length_set]; exact hk
  have hg2 : (M.set k ⟨M[k].name, ⟨M[k].bytes.ao, f.kept + st, M[k].bytes.cap⟩, (f.kept : Int)⟩)[k] = ⟨M[k].name, ⟨M[k].bytes.ao, f.kept + st, M[k].bytes.cap⟩, (f.kept : Int)⟩ := List.getElem_set_self _
  obtain ⟨⟨q0, q1, q2⟩, qf, _⟩ := Fl.own_at h k hk
  obtain ⟨⟨z0, z1, z2⟩, _, _⟩ := Fl.own_at hO2 k hk2
  rw [hg2] at z0 z1 z2
  simp only at z0 z1 z2
  -- the last step: all is kept
  have HKeep : Hid (∀ W xs, Fl.Own W 0 (.slice (some ⟨g, 0, none⟩) n cap) (M.set k ⟨M[k].name, ⟨M[k].bytes.ao, f.kept + st, M[k].bytes.cap⟩, (f.kept : Int)⟩) → By.Own W 0 (sl ⟨M[k].bytes.ao, f.kept + st, M[k].bytes.cap⟩) xs → UpdQ (fun b => b = g ∨ (sl M[k].bytes).ownBlock = some b) w W → tear f pick = ⟨f.name, xs, f.kept + st⟩ → Calls Try.prog 39 #[.pointer (some ⟨g, k * 3, none⟩)] W (TearE w g n cap M k M[k] (tear f pick))) := Lib.hid fun W xs a1 a2 a3 a4 => by
    refine (fl_keep W g n cap _ k a1 hk2 (by rw [hg2]; show f.kept + st ≤ _; omega)).mono ?_
    rintro e W' ⟨rfl, rfl⟩
    have b1 := Fl.own_put a1 k 2 hk2 (by omega) (.int .i64 ((f.kept + st : Nat) : Int)) ⟨M[k].name, ⟨M[k].bytes.ao, f.kept + st, M[k].bytes.cap⟩, ((f.kept + st : Nat) : Int)⟩ (by rw [hg2]; rfl)
    rw [List.set_set] at b1
    rw [hg2, a4]
    have k2 : UpdQ (fun b => b = g) W (W.setCell ⟨g, k * 3 + 2, none⟩ (.int .i64 ((f.kept + st : Nat) : Int))) := UpdQ.set (Q := fun b => b = g) W rfl _ _
    refine ⟨rfl, _, b1, ⟨one.name, rfl, k2.rows a2 fun b e z => hap b (hhead.2.1 ▸ e) z⟩, hhead.2.1, a3.trans (k2.mono fun b z => .inl z)⟩
  have hways : (M[k].bytes.n : Int) - (f.kept : Int) + 1 = (wy : Int) := by omega
  have hrem : (pick : Int).tmod (wy : Int) = (st : Int) := by rw [← hst]; exact (Int.ofNat_tmod _ _).symm
  have hquo : (pick : Int).tdiv (wy : Int) = (q : Int) := by rw [← hq]; exact (Int.ofNat_tdiv _ _).symm
  have hqp : q ≤ pick := hq ▸ Nat.div_le_self _ _
  have hwy0 : 0 < wy := by omega
  have hmn : M[k].bytes.n ≤ 4194304 := by omega
  have hkn : f.kept ≤ M[k].bytes.n := by omega
  have hkst : f.kept + st ≤ M[k].bytes.n := by omega
  have HSh := Lib.hid hsh
  have h1k := one.kept
  rw [h1k] at q2
  simp only [Int.natCast_add] at HSh
  by_cases hf : 0 < st ∧ q % 2 = 1
  · have HT : Hid (tear f pick = ⟨f.name, Dk.flip (f.bs.take (f.kept + st)), f.kept + st⟩) := Lib.hid (by
      have := tear_yes (p := pick) hkp (by rw [hwy, hst, hq]; exact hf)
      rw [hwy, hst] at this
      exact this)
    obtain ⟨b, hb1, hb2, hb3, hb4, hb5⟩ := By.own_last hB2 (by rw [hl2]; omega)
    rw [hl2] at hb3 hb4 hb5
    simp only at hb1
    rw [hb1] at z1
    have hfl : Dk.flip (f.bs.take (f.kept + st)) = (f.bs.take (f.kept + st)).set (f.kept + st - 1) ((f.bs.take (f.kept + st)).getLast?.getD 0 ^^^ 255) := by
      unfold Dk.flip
      rw [hl2]
    have hd2 : Below W2.heap.size W2 W2.drew := (Below.refl _ _).drew
    have hgb : b ≠ g := hap b (hhead.2.1 ▸ hb2)
    have k3 : UpdQ (fun x => x = b) W2 (W2.setCell ⟨b, f.kept + st - 1, none⟩ (By.bv ((f.bs.take (f.kept + st)).getLast?.getD 0 ^^^ 255))).drew := (UpdQ.set (Q := fun x => x = b) W2 rfl _ _).trans (UpdQ.of (Below.refl _ _).drew)
    have HK := Lib.hid (HKeep.out (W2.setCell ⟨b, f.kept + st - 1, none⟩ (By.bv ((f.bs.take (f.kept + st)).getLast?.getD 0 ^^^ 255))).drew _ (k3.rows hO2 fun x e z => hgb (by cases e; exact z.symm)) (hb5 _) ((u2.mono fun b z => .inl z).trans (k3.mono fun x z => .inr (by rw [z, ← hhead.2.1]; exact hb2))) (hfl ▸ HT.out))
    have hq2 : (q : Int).tmod 2 = ((q % 2 : Nat) : Int) := (Int.ofNat_tmod q 2).symm
    have hqe : (q : Int).tmod 2 = 1 := by omega
    have hst0 : (0 : Int) < (st : Int) := by omega
    generalize (f.bs.take (f.kept + st)).getLast?.getD 0 = y at hb3 HK
    generalize tear f pick = tf at HK HT
    obtain ⟨j, hj⟩ : ∃ j, f.kept + st = j + 1 := ⟨f.kept + st - 1, by omega⟩
    have hj' : f.kept + st - 1 = j := by omega
    rw [hj'] at hb3 hb4 HK
    rw [hj] at z1
    have hji : (f.kept : Int) + (st : Int) = (j : Int) + 1 := by omega
    rw [hji] at HSh
    unfold By.bv at hb3 HK
    rw [← Dk.xor_byte] at HK
    have hjm : j ≤ 4194304 := by omega
    generalize f.kept = kp at *
    generalize M[k] = r at *
    clear HKeep HT hO2 hB2 hhead h hsh hg2 hk2 hW2 one hap hst hq hwy hf u2 qf hl2 hon hb5 hfl k3 hq2 hj hj'
    go_enter Try.func41, Try.ntmps41
    go_wp2_with fail
    go_region
    go_wp2_with (go_at_call 46; refine HSh.out.mono ?_)
    rintro e u ⟨rfl, rfl⟩
    go_wp2_with fail
    go_region
    all_goals go_wp2_with (go_at_call 39; refine HK.out.mono ?_; rintro e u hE; have HE := Lib.hid hE; obtain ⟨rfl, -⟩ := hE)
    all_goals go_end0
    all_goals exact HE.out
  · have HT : Hid (tear f pick = ⟨f.name, f.bs.take (f.kept + st), f.kept + st⟩) := Lib.hid (by
      have := tear_no (p := pick) hkp (by rw [hwy, hst, hq]; exact hf)
      rw [hwy, hst] at this
      exact this)
    have HK := Lib.hid (HKeep.out W2 _ hO2 hB2 (u2.mono fun b z => .inl z) HT.out)
    have hq2 : (q : Int).tmod 2 = ((q % 2 : Nat) : Int) := (Int.ofNat_tmod q 2).symm
    have hf' : (0 : Int) < (st : Int) → (((q % 2 : Nat) : Int) == 1) = false := fun z1 => beq_eq_false_iff_ne.2 fun z2 => hf ⟨by omega, by omega⟩
    generalize q % 2 = t at hq2 hf'
    generalize tear f pick = tf at HK HT
    generalize f.kept = kp at *
    generalize M[k] = r at *
    clear HKeep HT hO2 hB2 hhead h hsh hg2 hk2 hW2 one hap hst hq hwy hf u2 qf hl2 hon
    by_cases hst0 : (0 : Int) < (st : Int)
    · have hqe := hf' hst0
      clear hf'
      go_enter Try.func41, Try.ntmps41
      go_wp2_with fail
      go_region
      all_goals go_wp2_with (first | (go_at_call 46; refine HSh.out.mono ?_; rintro e u ⟨rfl, rfl⟩) | (go_at_call 39; refine HK.out.mono ?_; rintro e u hE; have HE := Lib.hid hE; obtain ⟨rfl, -⟩ := hE))
      all_goals go_end0
      all_goals exact HE.out
    · clear hf'
      obtain rfl : st = 0 := by omega
      simp only [Int.natCast_zero, Int.add_zero, Nat.add_zero] at HSh z1 hrem hkst
      go_enter Try.func41, Try.ntmps41
      go_wp2_with fail
      go_region
      all_goals go_wp2_with (first | (go_at_call 46; refine HSh.out.mono ?_; rintro e u ⟨rfl, rfl⟩) | (go_at_call 39; refine HK.out.mono ?_; rintro e u hE; have HE := Lib.hid hE; obtain ⟨rfl, -⟩ := hE))
      all_goals go_end0
      all_goals exact HE.out
end Go.Proofs.Ytegniklofhopeaa
