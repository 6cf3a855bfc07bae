/- CONTRACTS OF PACKAGE letter: Put. (By genlte.py.) -/
import Derived.Test.YtagjbjppddbalaaLtD
import Derived.Test.YtagjbjppddbalaaEtA
set_option maxRecDepth 100000
set_option linter.unusedVariables false
namespace Go.Proofs.Ytagjbjppddbalaa.Lr
open Go.RowKit
open Mem Pk Wl

/-- what Put answers -/
def PutE (w : World) (bs : List UInt8) (e : Ending) (w' : World) : Prop := ∃ v, e = .returned v ∧ By.Own w' w.heap.size v bs ∧ Below w.heap.size w w'
theorem own_block {w0 w : World} {g N : Nat} {bs : List UInt8} (hb : By.Block w g bs) (hN : N = bs.length) (hm : bs.length ≤ 1000000) (hg : w0.heap.size ≤ g) : By.Own w w0.heap.size (.slice (some ⟨g, 0, none⟩) N N) bs := by
  subst hN
  have hmx : maxLen = 9223372036854775807 := rfl
  exact ⟨by simp, .inr ⟨g, bs.length, (bs.map By.bv).toArray, rfl, hg, hb, Nat.le_refl _, by omega, by simp, by
    rw [List.toList_toArray, Nat.mul_one]
    exact List.take_of_length_le (by rw [List.length_map]; exact Nat.le_refl _)⟩⟩
theorem entB_len (e : Et.T) (h : e.data.size ≤ 1100) : (entB e).length ≤ 1200 := by
  unfold entB
  rw [List.length_append, List.length_append]
  have h1 := nm_len e.term
  have h2 := nm_len e.mem
  have h3 : (tx e.data).length ≤ 1110 := by
    unfold tx
    rw [List.length_append, txt_len]
    have := nm_len (e.data.size : Int)
    omega
  omega
theorem entsB_most : ∀ l : List Et.T, (∀ e ∈ l, e.data.size ≤ 1100) → (entsB l).length ≤ 1200 * l.length
  | [], _ => Nat.le_refl _
  | x :: l, h => by
    rw [entsB, List.length_append, List.length_cons]
    have h1 := entB_len x (h x List.mem_cons_self)
    have h2 := entsB_most l fun e he => h e (List.mem_cons_of_mem _ he)
    omega
theorem _root_.Go.Proofs.Ytagjbjppddbalaa.By.step_appB {ops : Array Oper} {o : Oper} {a : Act} {K : Act → World → Prop} {Q : Exit → Act → World → Prop} {E : Prop} (X : World) (B : Nat) (hgd : o.guard = none) (s t : Operand)
    (ho : o.op = .call { callee := .builtin .append, args := #[s, t], argTypes := #[25, 25] })
    (v : Value) (xs : List UInt8) (hs : a.eval s = v) (hown : By.Own X B v xs)
    (ao : Option Addr) (n cap : Nat) (zs : List UInt8) (ht : a.eval t = .slice ao n cap) (hn : n = zs.length) (hnil : ao = none → cap = 0) (hsrc : By.Seg X ao zs) (hl : xs.length + n ≤ 140737488355328) (hB : B ≤ X.heap.size)
    (h : ∀ v' w1, By.Own w1 B v' (xs ++ zs) → X.grownBy w1 v.ownBlock → K (a.put o.dst v') w1) :
    if Region.wanted o (yielded ops a.tmps) = true then Oper.wp Try.prog o a X K Q else E := by
  have hw : Region.wanted o (yielded ops a.tmps) = true := by simp [Region.wanted, hgd]
  rw [if_pos hw]
  exact By.wp_app X s t ho B v xs hs hown ao n cap zs ht hn hnil hsrc hl hB h
theorem ints_two (u : World) (a b : Int) (h : Fit a ∧ Fit b) : Ints (u.alloc (.cells #[.int .i64 a, .int .i64 b] 3)) (some ⟨u.heap.size, 0, none⟩) 2 2 [a, b] :=
  ints_made u [a, b] (by
    intro z hz
    simp only [List.mem_cons, List.not_mem_nil, or_false] at hz
    rcases hz with rfl | rfl
    · exact h.1
    · exact h.2) (by simp)
theorem ints_twoD (u : World) (a b : Int) (h : Fit a ∧ Fit b) : Ints (u.alloc (.cells #[.int .i64 a, .int .i64 b] 3)).drew (some ⟨u.heap.size, 0, none⟩) 2 2 [a, b] :=
  ⟨rfl, Nat.le_refl _, (ints_two u a b h).reach, (ints_two u a b h).seg, (ints_two u a b h).wf⟩
set_option maxHeartbeats 4000000 in
theorem lt_put (r : Lr.T) (l : List Et.T) (w : World) (hl : Et.Ls w r.ents.ao r.ents.n r.ents.cap l) : Calls Try.prog 9 #[Lr.val r] w (PutE w (putM (m r l))) := by
  have HL := Lib.hid hl
  have hn9 := hl.reach
  have hn8 := hl.fits
  have HN := Lib.hid hl.len
  have HBW := Lib.hid (Lr.below_own w r)
  have HC := Lib.hid (Lr.c_box w r)
  have HRi := Lib.hid (lt_right r l (Lr.box w r) (hl.below (Lr.below_own w r)))
  obtain ⟨a0, a1, a2, a3, a4, a5, a6, a7, a8, a9, a10, a11, a12⟩ := HC.out
  clear hl
  unfold Lr.val at HRi ⊢
  obtain ⟨W, hW⟩ : ∃ W, Lr.box w r = W := ⟨_, rfl⟩
  rw [hW] at HBW HC HRi a0 a1 a2 a3 a4 a5 a6 a7 a8 a9 a10 a11 a12
  unfold Lr.box at hW
  cases hr : rightB (m r l)
  · have HE : Hid (putM (m r l) = []) := Lib.hid (by unfold putM; rw [hr]; rfl)
    rw [hr] at HRi
    go_enter Try.func9, Try.ntmps9
    go_wp2_with (go_at_call 17; refine HRi.out.mono ?_; rintro e w1 ⟨rfl, b1⟩; have HB1 := Lib.hid (bchain HBW.out b1); clear b1)
    go_ret
    exact ⟨_, rfl, by rw [HE.out]; exact By.own_nil _ _, HB1.out⟩
  · have HE : Hid (putM (m r l) = (m r l).bytes) := Lib.hid (by unfold putM; rw [hr]; rfl)
    rw [hr] at HRi
    have HOk := Lib.hid (ok_of hr)
    clear hr
    go_enter Try.func9, Try.ntmps9
    go_wp2_with (go_at_call 17; refine HRi.out.mono ?_)
    rintro e w1 ⟨rfl, b1⟩
    have HB1 := Lib.hid (bchain HBW.out b1)
    have HC1 := Lib.hid (HC.out.below b1)
    clear b1 a0 a1 a2 a3 a4 a5 a6 a7 a8 a9 a10 a11 a12 hW HBW HC HRi
    obtain ⟨a0, a1, a2, a3, a4, a5, a6, a7, a8, a9, a10, a11, a12⟩ := HC1.out
    have HI := Lib.hid (ints_made w1 [r.kind, r.frm, r.to, r.term, r.idx, r.bt, r.com, r.mem, r.off, r.size] (by
      have o := HOk.out
      have h1 := o.kind
      have h2 := o.frm
      have h3 := o.to
      have h4 := o.term
      have h5 := o.idx
      have h6 := o.bt
      have h7 := o.com
      have h8 := o.mem
      have h9 := o.off
      have h10 := o.size
      unfold m at h1 h2 h3 h4 h5 h6 h7 h8 h9 h10
      simp only at h1 h2 h3 h4 h5 h6 h7 h8 h9 h10
      intro z hz
      simp only [List.mem_cons, List.not_mem_nil, or_false] at hz
      unfold Fit
      omega) (by simp))
    have HNu := Lib.hid (lt_numbers _ _ _ _ _ HI.out (by simp))
    simp only [List.map_cons, List.map_nil, List.length_cons, List.length_nil, Nat.zero_add, Nat.reduceAdd] at HNu
    obtain ⟨w2, hw2⟩ : ∃ w2, w1.alloc (.cells #[.int .i64 r.kind, .int .i64 r.frm, .int .i64 r.to, .int .i64 r.term, .int .i64 r.idx, .int .i64 r.bt, .int .i64 r.com, .int .i64 r.mem, .int .i64 r.off, .int .i64 r.size] 3) = w2 := ⟨_, rfl⟩
    have hb2 : Below w1.heap.size w1 w2 := hw2 ▸ (Below.refl _ _).alloc (Nat.le_refl _) _
    rw [hw2] at HNu
    have HB2 := Lib.hid (bchain HB1.out hb2)
    have HC2 := Lib.hid (HC1.out.below hb2)
    clear hb2 HI
    go_wp2_with (go_at_call 23; refine HNu.out.mono ?_)
    rintro e w3 ⟨v3, rfl, o3, b3⟩
    have HT : Hid ((numsB [r.kind, r.frm, r.to, r.term, r.idx, r.bt, r.com, r.mem, r.off, r.size]).length ≤ 100) := Lib.hid (numsB_len _)
    have HTe : Hid ((m r l).bytes = numsB [r.kind, r.frm, r.to, r.term, r.idx, r.bt, r.com, r.mem, r.off, r.size] ++ flB r.yes ++ vb (zz r.data.size) ++ txt r.data ++ vb (zz (r.ents.n : Int)) ++ entsB l) := Lib.hid (by
      unfold M.bytes M.ten m Wl.tx Wl.nm
      rw [HN.out]
      simp only [List.append_assoc])
    generalize numsB [r.kind, r.frm, r.to, r.term, r.idx, r.bt, r.com, r.mem, r.off, r.size] = bs3 at o3 HT HTe
    obtain ⟨ao3, n3, cap3, rfl, L3, hn3⟩ := o3.ls (by have := HT.out; omega)
    have HL3 := Lib.hid L3
    have HB3 := Lib.hid (bchain HB2.out b3)
    have HC3 := Lib.hid (HC2.out.below b3)
    clear b3 o3 L3 hw2 HNu a0 a1 a2 a3 a4 a5 a6 a7 a8 a9 a10 a11 a12
    obtain ⟨-, -, -, -, -, -, -, -, -, -, a10, a11, a12⟩ := HC3.out
    go_wp2_with (go_at_call 24; refine (pk_flag bs3 r.yes ao3 n3 cap3 _ HL3.out hn3).mono ?_)
    rintro e w4 ⟨⟨g4, rfl, hg4, hb4⟩, b4⟩
    have HT4 : Hid ((bs3 ++ flB r.yes).length ≤ 110) := Lib.hid (by
      rw [List.length_append]
      have := HT.out
      have : (flB r.yes).length ≤ 10 := nm_len _
      omega)
    have L4 := hb4.ls (by have := HT4.out; omega)
    generalize bs3 ++ flB r.yes = bs4 at HTe HT4 L4 ⊢
    obtain ⟨n4, hn4⟩ : ∃ n, bs4.length = n := ⟨_, rfl⟩
    rw [hn4] at L4 HT4 ⊢
    have HL4 := Lib.hid L4
    have HB4 := Lib.hid (bchain HB3.out b4)
    have HC4 := Lib.hid (HC3.out.below b4)
    have hn4' : n4 ≤ 1000 := by have := HT4.out; omega
    clear b4 hb4 hg4 L4 hn4 a10 a11 a12
    obtain ⟨-, -, -, -, -, -, -, -, -, -, a10, a11, a12⟩ := HC4.out
    have hds : r.data.size ≤ 600 := HOk.out.data
    have HDs := Lib.hid hds
    go_wp2_with (go_at_call 25; refine (pack_text bs4 r.data (by omega) _ _ _ _ HL4.out (by omega)).mono ?_)
    rintro e w5 ⟨⟨g5, n5, rfl, hn5, hg5, hb5⟩, b5⟩
    have HT5 : Hid ((bs4 ++ vb (zz r.data.size) ++ txt r.data).length ≤ 2000) := Lib.hid (by
      rw [List.length_append, List.length_append, txt_len]
      have := HT4.out
      have := HL4.out.len
      have : (vb (zz (r.data.size : Int))).length ≤ 10 := nm_len _
      omega)
    have L5 := hb5.ls (by have := HT5.out; omega)
    rw [← hn5] at L5 HT5
    generalize bs4 ++ vb (zz r.data.size) ++ txt r.data = bs5 at HTe L5
    have HL5 := Lib.hid L5
    have HB5 := Lib.hid (bchain HB4.out b5)
    have HC5 := Lib.hid (HC4.out.below b5)
    have hn5' : n5 ≤ 2000 := HT5.out
    clear b5 hb5 hg5 L5 hn5 a10 a11 a12 hds
    obtain ⟨-, -, -, -, -, -, -, -, -, -, a10, a11, a12⟩ := HC5.out
    have hne : r.ents.n ≤ 8 := by have := HOk.out.n; have := HN.out; unfold m at *; simp only at *; omega
    go_wp2_with (go_at_call 26; refine (pack_num bs5 (r.ents.n : Int) ⟨by omega, by omega⟩ _ _ _ _ HL5.out (by omega)).mono ?_)
    rintro e w6 ⟨⟨g6, rfl, hg6, hb6⟩, b6⟩
    have HT6 : Hid ((bs5 ++ vb (zz (r.ents.n : Int))).length ≤ 2010) := Lib.hid (by
      rw [List.length_append]
      have := HT5.out
      have := HL5.out.len
      have : (vb (zz (r.ents.n : Int))).length ≤ 10 := nm_len _
      omega)
    have hN6 : n5 + wd (zz (r.ents.n : Int)) = (bs5 ++ vb (zz (r.ents.n : Int))).length := by
      rw [List.length_append, ← HL5.out.len]
      rfl
    have HO6 := Lib.hid (own_block (w0 := w) hb6 hN6 (by have := HT6.out; omega) (Nat.le_trans HB5.out.size hg6))
    have HB6 := Lib.hid (bchain HB5.out b6)
    have HC6 := Lib.hid (HC5.out.below b6)
    generalize n5 + wd (zz (r.ents.n : Int)) = n6 at HO6 hN6 ⊢
    generalize bs5 ++ vb (zz (r.ents.n : Int)) = bs6 at HO6 HTe HT6
    clear b6 hb6 hg6 hN6 a10 a11 a12 HL3 HL4 HL5 HC1 HC2 HC3 HC4 HC5
    obtain ⟨-, -, -, -, -, -, -, -, -, -, a10, a11, a12⟩ := HC6.out
    go_wp2_with fail
    clear HC6 a10 a11 a12
    have HRd : Hid (∀ e ∈ l, (Fit e.term ∧ Fit e.mem) ∧ e.data.size ≤ 1100) := Lib.hid fun e he => by
      have h1 := HOk.out.ents e he
      have h2 := HOk.out.term
      refine ⟨⟨?_, ?_⟩, h1.2.2⟩ <;> unfold Fit <;> omega
    go_loopw [3, 5, 47] (fun t _ i wr => ∃ k : Nat, k ≤ r.ents.n ∧ i = .int .i64 k ∧ Hid (By.Own wr w.heap.size t (bs6 ++ entsB (l.take k))) ∧ Hid (Below w.heap.size w wr)) (fun _ _ i _ => r.ents.n - (intOf i).toNat)
    case atStart => exact ⟨0, by omega, rfl, by simpa [entsB] using HO6, HB6⟩
    case round =>
      rename World => wz
      obtain ⟨k, hk, rfl, HO, HB⟩ := hrel
      by_cases hlt : k < r.ents.n
      · obtain ⟨b, off, hao⟩ := HL.out.at (by omega)
        have hkl : k < l.length := HN.out ▸ hlt
        have hL1 := HL.out.below HB.out
        rw [hao] at hL1 ⊢
        have hrow := hL1.row k hkl
        have HX := Lib.hid (HRd.out _ (List.getElem_mem hkl))
        have HSt := Lib.hid (entsB_take hkl)
        obtain ⟨x, hx⟩ : ∃ x, l[k] = x := ⟨_, rfl⟩
        rw [hx] at hrow HX HSt
        obtain ⟨g0, g1, g2⟩ := hrow
        have hxd : x.data.size ≤ 1100 := HX.out.2
        obtain ⟨X, hX, hbX, hE⟩ := Et.boxed1 wz x
        have HOX := Lib.hid (By.own_below HO.out hbX)
        have HBX := Lib.hid (bchain HB.out hbX)
        unfold Et.C at hE
        obtain ⟨z0, z1, z2⟩ := hE
        obtain ⟨q, hq⟩ : ∃ q, wz.heap.size = q := ⟨_, rfl⟩
        rw [hq] at z0 z1 z2
        clear hL1 hx HO6 HB6 hbX
        go_wp2_with fail
        try rw [hX]
        try rw [hq]
        have hqX : q < X.heap.size := cell_lt z0
        have lx : ∀ u, Below X.heap.size X u → Below w.heap.size w u ∧ u.cell? ⟨q, 0, none⟩ = some (.int .i64 x.term) ∧ u.cell? ⟨q, 1, none⟩ = some (.int .i64 x.mem) ∧ u.cell? ⟨q, 2, none⟩ = some (.string x.data) := fun u h => ⟨bchain HBX.out h, ((bcell h).1 _ _ hqX).trans z0, ((bcell h).1 _ _ hqX).trans z1, ((bcell h).1 _ _ hqX).trans z2⟩
        have HLt := Lib.hid (show ∀ k, u3.ownBlock = some k → k < q from fun k e => hq ▸ (World.ownsRow.lt HO.out k e).2)
        have HNl : Hid ((numsB [x.term, x.mem]).length ≤ 20) := Lib.hid (numsB_len _)
        have HEb : Hid (numsB [x.term, x.mem] ++ vb (zz x.data.size) ++ txt x.data = entB x) := Lib.hid (by
          unfold entB Wl.tx Wl.nm numsB numsB numsB
          simp only [List.append_assoc, List.append_nil, Wl.nm])
        have HSz : Hid ((bs6 ++ entsB (l.take k)).length ≤ 20000) := Lib.hid (by
          rw [List.length_append]
          have h1 := entsB_most (l.take k) fun e he => (HRd.out e (List.mem_of_mem_take he)).2
          rw [List.length_take] at h1
          have := HT6.out
          omega)
        obtain ⟨bk, hbk⟩ : ∃ bk, bs6 ++ entsB (l.take k) = bk := ⟨_, rfl⟩
        rw [hbk] at HO HOX HSz
        have HBk := Lib.hid hbk
        clear hbk
        have k3 : ∀ y2 y3, Below X.heap.size X y2 → y2.grownBy y3 u3.ownBlock → Below w.heap.size w y3 ∧ y3.cell? ⟨q, 0, none⟩ = some (.int .i64 x.term) ∧ y3.cell? ⟨q, 1, none⟩ = some (.int .i64 x.mem) ∧ y3.cell? ⟨q, 2, none⟩ = some (.string x.data) := fun y2 y3 h gr => by
          have s := lx y2 h
          have e := gr.block q (cell_lt s.2.1) (fun z => by have := HLt.out q z.symm; omega)
          exact ⟨s.1.grown gr s.1.size (By.own_ge HOX.out), (World.cell?_of_block e).trans s.2.1, (World.cell?_of_block e).trans s.2.2.1, (World.cell?_of_block e).trans s.2.2.2⟩
        have o2 := fun y2 (h : Below X.heap.size X y2) => By.own_below HOX.out h
        clear g0 g1 g2 hX hao
        go_region_held3 (fun u => Below w.heap.size w u ∧ u.cell? ⟨q, 0, none⟩ = some (.int .i64 x.term) ∧ u.cell? ⟨q, 1, none⟩ = some (.int .i64 x.mem) ∧ u.cell? ⟨q, 2, none⟩ = some (.string x.data)) (first | with_reducible assumption | (apply lx; repeat (first | with_reducible assumption | with_reducible apply below_box | with_reducible apply Below.drew | with_reducible exact Below.refl _ _)) | fail) (first | (go_at_call 23; refine (lt_numbers (some ⟨_, 0, none⟩) 2 2 [x.term, x.mem] _ (by first | with_reducible exact ints_two _ _ _ HX.out.1 | with_reducible exact ints_twoD _ _ _ HX.out.1) (by simp)).mono ?_; rintro e y1 ⟨v1, rfl, p1, c1⟩; have bX1 : Below X.heap.size X y1 := bchain (by repeat (first | with_reducible assumption | with_reducible apply below_box | with_reducible apply Below.drew | with_reducible exact Below.refl _ _)) c1; have s1 := lx _ bX1; obtain ⟨ao1, n1, cap1, rfl, L1, hn1⟩ := p1.ls (by have := HNl.out; omega)) | (go_at_call 25; refine (pack_text (numsB [x.term, x.mem]) x.data (by omega) ao1 n1 cap1 _ L1 hn1).mono ?_; rintro e y2 ⟨⟨g2, n2, rfl, hn2, hg2, hb2⟩, c2⟩; rw [HEb.out] at hn2 hb2; have HN2 := Lib.hid hn2; have HB2' := Lib.hid hb2; clear hn2 hb2 hg2; have bX2 := bchain bX1 c2; have s2 := lx _ bX2) | (refine By.step_appB y2 w.heap.size (by rfl) (.tmp 51) (.tmp 60) (by rfl) u3 bk (by rfl) (o2 _ bX2) (some ⟨g2, 0, none⟩) n2 n2 (entB x) (by rfl) HN2.out (fun z => by cases z) (HB2'.out.ls (by have := entB_len x hxd; omega)).seg (by have := entB_len x hxd; have := HSz.out; have := HN2.out; omega) s2.1.size ?_; intro v3 y3 o3 gr3; have s3 := k3 y2 y3 bX2 gr3) | fail)
        have HO3 : Hid (By.Own y3 w.heap.size v3 (bk ++ entB x)) := Lib.hid o3
        have HB3' := Lib.hid s3.1
        clear o3 gr3 s3 s2 s1
        go_wp2_with fail
        go_roundw
        case rel => exact ⟨k + 1, by omega, by go_num, by rw [HSt.out, ← List.append_assoc, HBk.out]; exact HO3, HB3'⟩
        case measure => simp [intOf]; omega
      · obtain rfl : k = r.ents.n := by omega
        have HF : Hid (By.Own wz w.heap.size u3 (m r l).bytes) := Lib.hid (by
          rw [HTe.out]
          have := HO.out
          rw [List.take_of_length_le (by have := HN.out; omega)] at this
          exact this)
        clear HO hk hlt
        go_wp2_with fail
        go_ret
        exact ⟨_, rfl, by rw [HE.out]; exact HF.out, HB.out⟩


end Go.Proofs.Ytagjbjppddbalaa.Lr
