/- PLAIN LEAN: a letter comes back from its bytes, and bytes that are taken are its own; how many they are. No Go walked here. -/
import Derived.Test.YtagjbjppddbalaaLtP
set_option linter.unusedVariables false
namespace Go.Proofs.Ytagjbjppddbalaa.Lr
open Pk Wl

section
variable {bs : List UInt8}
/-! ### backward -/
theorem bwd_num {s : St} {r : List UInt8} (h : Rem bs (rNum bs s).2 r) : Rem bs s (nm (rNum bs s).1 ++ r) := by
  by_cases he : s.err = 0
  · cases hn : num (bs.drop s.at') with
    | inl e =>
      rw [rNum_bad he hn] at h
      exfalso
      have h1 : e = 0 := h.1
      subst h1
      have hne : ∀ (l : List UInt8) (k u : Nat), rd k u l ≠ .inl 0 := by
        intro l
        induction l with
        | nil => intro k u h; rw [rd_nil] at h; cases h
        | cons x l ih =>
          intro k u h
          rw [rd] at h
          split at h
          · cases h
          · split at h
            · exact ih _ _ h
            · split at h
              · cases h
              · cases h
      exact hne _ _ _ hn
    | inr q =>
      obtain ⟨u, z⟩ := q
      rw [rNum_ok he hn] at h ⊢
      obtain ⟨h1, h2, h3, _⟩ := num_is hn
      refine ⟨he, ?_⟩
      show bs.drop s.at' = nm (uz u) ++ r
      unfold nm
      rw [zz_uz, h1, List.drop_drop, ← h.2]
  · rw [rNum_wrong he] at h
    exact absurd h.1 he
theorem bwd_count {s : St} {most : Int} {r : List UInt8} (h : Rem bs (rCount bs most s).2 r) : Rem bs s (nm (rCount bs most s).1 ++ r) ∧ 0 ≤ (rCount bs most s).1 ∧ (rCount bs most s).1 ≤ most ∧ (rCount bs most s).1 ≤ (r.length : Int) := by
  by_cases hb : (bs.length : Int) - ((rWithin bs 0 most s).2.at' : Int) < (rWithin bs 0 most s).1
  · rw [rCount_short hb] at h
    cases h.1
  · rw [rCount_ok hb] at h ⊢
    by_cases he : (rNum bs s).2.err = 0
    · by_cases hlo : (rNum bs s).1 < 0 ∨ most < (rNum bs s).1
      · rw [rWithin_long he hlo] at h
        cases h.1
      · rw [rWithin_ok he hlo] at h hb ⊢
        have h2 := h.2
        have hl := congrArg List.length h2
        rw [List.length_drop] at hl
        exact ⟨bwd_num h, by omega, by omega, by omega⟩
    · rw [rWithin_wrong he] at h
      exact absurd h.1 he
theorem bwd_text {s : St} {most : Int} {r : List UInt8} (h : Rem bs (rText bs most s).2 r) : Rem bs s (tx (rText bs most s).1 ++ r) ∧ ((rText bs most s).1.size : Int) ≤ most := by
  have he : (rCount bs most s).2.err = 0 := h.1
  obtain ⟨h1, h2, h3, h4⟩ := bwd_count (bs := bs) (s := s) (most := most) (r := bs.drop (rCount bs most s).2.at') ⟨he, rfl⟩
  obtain ⟨q, hq⟩ : ∃ q : Nat, (rCount bs most s).1 = q := ⟨(rCount bs most s).1.toNat, by omega⟩
  have hd : bs.drop ((rCount bs most s).2.at' + q) = r := by
    have := h.2
    unfold rText at this
    rw [hq, Int.toNat_natCast] at this
    exact this
  unfold rText
  rw [hq, Int.toNat_natCast]
  rw [hq] at h1 h3 h4
  have hs : (bs.take ((rCount bs most s).2.at' + q)).drop (rCount bs most s).2.at' = (bs.drop (rCount bs most s).2.at').take q := by
    rw [List.drop_take, show (rCount bs most s).2.at' + q - (rCount bs most s).2.at' = q by omega]
  rw [hs]
  have hsz : (str ((bs.drop (rCount bs most s).2.at').take q)).size = q := by
    have ht : (txt (str ((bs.drop (rCount bs most s).2.at').take q))).length = q := by
      show ((bs.drop (rCount bs most s).2.at').take q).length = q
      rw [List.length_take]
      omega
    rw [← txt_len, ht]
  show Rem bs s (tx (str ((bs.drop (rCount bs most s).2.at').take q)) ++ r) ∧ (((str ((bs.drop (rCount bs most s).2.at').take q)).size : Nat) : Int) ≤ most
  refine ⟨?_, by omega⟩
  unfold tx
  rw [hsz, List.append_assoc, ← hd, ← List.drop_drop]
  have hx : txt (str ((bs.drop (rCount bs most s).2.at').take q)) ++ (bs.drop (rCount bs most s).2.at').drop q = bs.drop (rCount bs most s).2.at' := List.take_append_drop q _
  rw [hx]
  exact h1
/-! ### flags, entries -/
theorem fwd_flag {s : St} {b : Bool} {r : List UInt8} (h : Rem bs s (flB b ++ r)) : (rFlag bs s).1 = b ∧ Rem bs (rFlag bs s).2 r := by
  unfold flB at h
  have hf : Fit (if b = true then (1 : Int) else 0) := by cases b <;> exact ⟨by decide, by decide⟩
  obtain ⟨h1, h2⟩ := fwd_num h hf
  unfold rFlag
  rw [if_neg (by rw [h1]; cases b <;> simp), h1]
  refine ⟨?_, h2⟩
  cases b <;> rfl
theorem bwd_flag {s : St} {r : List UInt8} (h : Rem bs (rFlag bs s).2 r) : Rem bs s (flB (rFlag bs s).1 ++ r) := by
  by_cases hb : (rNum bs s).1 ≠ 0 ∧ (rNum bs s).1 ≠ 1
  · unfold rFlag at h
    rw [if_pos hb] at h
    exact absurd h.1 (by simp)
  · have e : rFlag bs s = (decide ((rNum bs s).1 = 1), (rNum bs s).2) := if_neg hb
    rw [e] at h ⊢
    have h1 := bwd_num h
    have e2 : (if decide ((rNum bs s).1 = 1) = true then (1 : Int) else 0) = (rNum bs s).1 := by
      by_cases z : (rNum bs s).1 = 1
      · rw [z]
        rfl
      · have : (rNum bs s).1 = 0 := Decidable.byContradiction fun y => hb ⟨y, z⟩
        rw [this]
        rfl
    unfold flB
    rw [e2]
    exact h1
def EntOk (e : Et.T) : Prop := Fit e.term ∧ Fit e.mem ∧ e.data.size ≤ 1100
theorem fwd_ent {s : St} {e : Et.T} {r : List UInt8} (h : Rem bs s (entB e ++ r)) (ho : EntOk e) : (rEnt bs s).1 = e ∧ Rem bs (rEnt bs s).2 r := by
  obtain ⟨o1, o2, o3⟩ := ho
  unfold entB at h
  simp only [List.append_assoc] at h
  obtain ⟨e1, h1⟩ := fwd_num h o1
  obtain ⟨e2, h2⟩ := fwd_num h1 o2
  obtain ⟨e3, h3⟩ := fwd_text (most := 1100) h2 (by omega) (by omega)
  unfold rEnt
  rw [e1, e2, e3]
  exact ⟨rfl, h3⟩
theorem bwd_ent {s : St} {r : List UInt8} (h : Rem bs (rEnt bs s).2 r) : Rem bs s (entB (rEnt bs s).1 ++ r) := by
  unfold rEnt at h ⊢
  dsimp only at h ⊢
  have c := (bwd_text h).1
  have b := bwd_num c
  have a := bwd_num b
  unfold entB
  simp only [List.append_assoc]
  exact a
theorem fwd_ents : ∀ (l : List Et.T) (s : St) (r : List UInt8), (∀ e ∈ l, EntOk e) → Rem bs s (entsB l ++ r) → (rEnts bs l.length s).1 = l ∧ Rem bs (rEnts bs l.length s).2 r
  | [], _, _, _, h => ⟨rfl, h⟩
  | a :: l, s, r, ho, h => by
    rw [entsB, List.append_assoc] at h
    obtain ⟨h1, h2⟩ := fwd_ent h (ho a (by simp))
    obtain ⟨g1, g2⟩ := fwd_ents l _ r (fun x hx => ho x (by simp [hx])) h2
    rw [List.length_cons, rEnts, h1, g1]
    exact ⟨rfl, g2⟩
theorem rEnts_len : ∀ (k : Nat) (s : St), (rEnts bs k s).1.length = k
  | 0, _ => rfl
  | k + 1, s => by rw [rEnts, List.length_cons, rEnts_len k]
theorem bwd_ents : ∀ (k : Nat) (s : St) (r : List UInt8), Rem bs (rEnts bs k s).2 r → Rem bs s (entsB (rEnts bs k s).1 ++ r)
  | 0, _, _, h => h
  | k + 1, s, r, h => by
    have h1 := bwd_ents k _ r h
    have g1 := bwd_ent h1
    rw [rEnts, entsB, List.append_assoc]
    exact g1
theorem entB_pos (e : Et.T) : 1 ≤ (entB e).length := by
  unfold entB
  rw [List.length_append]
  have := nm_pos e.term
  omega
theorem entsB_len : ∀ l : List Et.T, l.length ≤ (entsB l).length
  | [] => Nat.le_refl _
  | a :: l => by
    have h1 := entsB_len l
    have h2 := entB_pos a
    rw [entsB, List.length_append, List.length_cons]
    omega
/-! ### a letter -/
theorem fwd_m {m : M} (ho : Ok m) {s : St} {r : List UInt8} (h : Rem bs s (m.bytes ++ r)) : rM bs s = m ∧ Rem bs (eM bs s) r := by
  obtain ⟨o1, o2, o3, o4, o5, o6, o7, o8, o9, o10, o11, o12, o13⟩ := ho
  have hbt : Fit m.bt := ⟨by omega, by omega⟩
  unfold M.bytes M.ten numsB numsB numsB numsB numsB numsB numsB numsB numsB numsB numsB at h
  simp only [List.append_assoc, List.nil_append] at h
  obtain ⟨e0, h1⟩ := fwd_num (s := sN bs s 0) h ⟨by omega, by omega⟩
  obtain ⟨e1, h2⟩ := fwd_num (s := sN bs s 1) h1 ⟨by omega, by omega⟩
  obtain ⟨e2, h3⟩ := fwd_num (s := sN bs s 2) h2 ⟨by omega, by omega⟩
  obtain ⟨e3, h4⟩ := fwd_num (s := sN bs s 3) h3 ⟨by omega, by omega⟩
  obtain ⟨e4, h5⟩ := fwd_num (s := sN bs s 4) h4 ⟨by omega, by omega⟩
  obtain ⟨e5, h6⟩ := fwd_num (s := sN bs s 5) h5 hbt
  obtain ⟨e6, h7⟩ := fwd_num (s := sN bs s 6) h6 ⟨by omega, by omega⟩
  obtain ⟨e7, h8⟩ := fwd_num (s := sN bs s 7) h7 ⟨by omega, by omega⟩
  obtain ⟨e8, h9⟩ := fwd_num (s := sN bs s 8) h8 ⟨by omega, by omega⟩
  obtain ⟨e9, h10⟩ := fwd_num (s := sN bs s 9) h9 ⟨by omega, by omega⟩
  obtain ⟨e10, h11⟩ := fwd_flag (s := sN bs s 10) h10
  obtain ⟨e11, h12⟩ := fwd_text (s := sF bs s) (most := 600) h11 (by omega) (by omega)
  have hl := entsB_len m.ents
  obtain ⟨e12, h13⟩ := fwd_count (s := sT bs s) (most := 8) h12 (by omega) (by omega) (by rw [List.length_append]; omega)
  obtain ⟨e13, h14⟩ := fwd_ents m.ents (sC bs s) r (fun e he => by
    obtain ⟨k1, k2, k3⟩ := o13 e he
    exact ⟨⟨by omega, by omega⟩, ⟨by omega, by omega⟩, k3⟩) h13
  have hn : nC bs s = m.ents.length := by
    unfold nC
    rw [e12, Int.toNat_natCast]
  unfold rM eM
  rw [hn, e10, e11, e13]
  refine ⟨?_, h14⟩
  unfold vN
  rw [e0, e1, e2, e3, e4, e5, e6, e7, e8, e9]
theorem bwd_m {s : St} {r : List UInt8} (h : Rem bs (eM bs s) r) : Rem bs s ((rM bs s).bytes ++ r) := by
  have h1 := bwd_ents _ _ _ h
  obtain ⟨h2, h3, _, _⟩ := bwd_count (s := sT bs s) h1
  have h4 := (bwd_text (s := sF bs s) h2).1
  have h5 := bwd_flag (s := sN bs s 10) h4
  have g9 := bwd_num (s := sN bs s 9) h5
  have g8 := bwd_num (s := sN bs s 8) g9
  have g7 := bwd_num (s := sN bs s 7) g8
  have g6 := bwd_num (s := sN bs s 6) g7
  have g5 := bwd_num (s := sN bs s 5) g6
  have g4 := bwd_num (s := sN bs s 4) g5
  have g3 := bwd_num (s := sN bs s 3) g4
  have g2 := bwd_num (s := sN bs s 2) g3
  have g1 := bwd_num (s := sN bs s 1) g2
  have g0 := bwd_num (s := sN bs s 0) g1
  have hn : (((rM bs s).ents.length : Nat) : Int) = (rCount bs 8 (sT bs s)).1 := by
    unfold rM
    dsimp only
    rw [rEnts_len]
    unfold nC
    omega
  unfold M.bytes M.ten numsB numsB numsB numsB numsB numsB numsB numsB numsB numsB numsB
  rw [hn]
  simp only [List.append_assoc, List.nil_append]
  exact g0
end
theorem get_bytes {m : M} (h : rightB m = true) : getM m.bytes = m ∧ getE m.bytes = 0 := by
  obtain ⟨h1, h2⟩ := fwd_m (bs := m.bytes) (ok_of h) (s := s0) (r := []) (by rw [List.append_nil]; exact rem_start _)
  unfold getM getE
  rw [rem_end h2, h1, if_pos ⟨rfl, h⟩, if_neg (by simp), if_pos h]
  exact ⟨rfl, rfl⟩
theorem rem_of_end {bs : List UInt8} {s : St} (h : (rEnd bs s).1 = 0) : Rem bs s [] := by
  by_cases k : s.err = 0 ∧ s.at' < bs.length
  · rw [rEnd_tail k] at h
    cases h
  · rw [rEnd_else k] at h
    refine ⟨h, List.drop_eq_nil_iff.2 ?_⟩
    have : ¬ s.at' < bs.length := fun z => k ⟨h, z⟩
    omega
theorem bytes_get {bs : List UInt8} (h : getE bs = 0) : rightB (getM bs) = true ∧ (getM bs).bytes = bs := by
  unfold getE at h
  by_cases k : (rEnd bs (eM bs s0)).1 ≠ 0
  · rw [if_pos k] at h
    exact absurd h k
  · rw [if_neg k] at h
    by_cases k2 : rightB (rM bs s0) = true
    · have k3 : (rEnd bs (eM bs s0)).1 = 0 := Decidable.byContradiction k
      unfold getM
      rw [if_pos ⟨k3, k2⟩]
      have h1 := (bwd_m (bs := bs) (s := s0) (rem_of_end k3)).2
      rw [List.append_nil] at h1
      exact ⟨k2, h1.symm⟩
    · rw [if_neg k2] at h
      cases h
theorem get_none {bs : List UInt8} (h : getE bs ≠ 0) : getM bs = zeroM := by
  unfold getM
  refine if_neg fun k => h ?_
  unfold getE
  rw [if_neg (by simp [k.1]), if_pos k.2]
theorem put_get {bs : List UInt8} (h : getE bs = 0) : putM (getM bs) = bs := by
  obtain ⟨h1, h2⟩ := bytes_get h
  unfold putM
  rw [if_pos h1, h2]
/-! ### how many bytes -/
theorem nm_one {n : Int} (h0 : 0 ≤ n) (h1 : n ≤ 63) : (nm n).length = 1 := by
  have h : zz n < 128 := by
    unfold zz
    rw [if_neg (by omega)]
    omega
  show (vbF 10 (zz n)).length = 1
  rw [vbF_low h]
  rfl
theorem nm_two {n : Int} (h0 : 0 ≤ n) (h1 : n ≤ 127) : (nm n).length ≤ 2 := by
  have h : zz n < 256 := by
    unfold zz
    rw [if_neg (by omega)]
    omega
  show (vbF 10 (zz n)).length ≤ 2
  by_cases k : zz n < 128
  · rw [vbF_low k]
    exact Nat.le_succ 1
  · rw [vbF_high k, vbF_low (by omega)]
    exact Nat.le_refl 2
def room : List Et.T → Nat
  | [] => 0
  | e :: l => e.data.size + 24 + room l
theorem ents_most : ∀ l : List Et.T, (∀ e ∈ l, 0 ≤ e.mem ∧ e.mem ≤ 127) → (entsB l).length ≤ room l
  | [], _ => Nat.le_refl _
  | e :: l, h => by
    have h1 := ents_most l fun x hx => h x (by simp [hx])
    obtain ⟨k1, k2⟩ := h e (by simp)
    have k3 := nm_two k1 k2
    have k4 := nm_len e.term
    have k5 := nm_len (e.data.size : Int)
    rw [entsB, room, List.length_append]
    unfold entB tx
    rw [List.length_append, List.length_append, List.length_append, txt_len]
    omega
theorem bytes_len {m : M} (h : rightB m = true) : 13 ≤ m.bytes.length ∧ m.bytes.length ≤ 120 + m.data.size + room m.ents := by
  obtain ⟨o1, o2, o3, o4, o5, o6, o7, o8, o9, o10, o11, o12, o13⟩ := ok_of h
  have h1 := ents_most m.ents fun e he => (o13 e he).2.1
  have a0 := nm_one (n := m.kind) (by omega) (by omega)
  have a1 := nm_one (n := m.frm) (by omega) (by omega)
  have a2 := nm_one (n := m.to) (by omega) (by omega)
  have a3 := nm_len m.term
  have a4 := nm_len m.idx
  have a5 := nm_len m.bt
  have a6 := nm_len m.com
  have a7 := nm_len m.mem
  have a8 := nm_len m.off
  have a9 := nm_len m.size
  have a10 := nm_len (m.data.size : Int)
  have a11 := nm_len (m.ents.length : Int)
  have b3 := nm_pos m.term
  have b4 := nm_pos m.idx
  have b5 := nm_pos m.bt
  have b6 := nm_pos m.com
  have b7 := nm_pos m.mem
  have b8 := nm_pos m.off
  have b9 := nm_pos m.size
  have b10 := nm_pos (m.data.size : Int)
  have b11 := nm_pos (m.ents.length : Int)
  have hf : (flB m.yes).length = 1 := nm_one (by split <;> omega) (by split <;> omega)
  unfold M.bytes M.ten numsB numsB numsB numsB numsB numsB numsB numsB numsB numsB numsB tx
  simp only [List.length_append, List.length_nil, txt_len, hf]
  omega
end Go.Proofs.Ytagjbjppddbalaa.Lr
