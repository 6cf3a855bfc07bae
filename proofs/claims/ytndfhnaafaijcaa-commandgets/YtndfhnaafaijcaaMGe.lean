/- MERGED: CdR, CdT, CmB, CwB. (By mg.py.) -/
import Derived.Test.YtndfhnaafaijcaaMGd
import Derived.Test.YtndfhnaafaijcaaMGc
import Derived.BigFrame
/- CONTRACTS OF PACKAGE command: text, day, lines, out of a reader. -/
set_option linter.unusedVariables false
namespace Go.Proofs.Ytndfhnaafaijcaa
open Go.RowKit
open Mem Pk Cm

theorem By.Ls.updN {w w' : World} {p : Nat} {ao : Option Addr} {n cap : Nat} {rs : List UInt8} (h : By.Ls w ao n cap rs) (k : Upd w p w') (hp : 0 < n → ∀ b off, ao = some ⟨b, off, none⟩ → b ≠ p) : By.Ls w' ao n cap rs := by
  by_cases h0 : 0 < n
  · exact h.upd k (hp h0)
  · have e : rs = [] := List.length_eq_zero_iff.1 (by rw [← h.len]; omega)
    exact ⟨h.len, h.fits, h.reach, h.nil, .inl e⟩
/-- a block that a reader doesn't lie in -/
structure Off (p q n : Nat) (ao : Option Addr) : Prop where
  ne : q ≠ p
  bytes : 0 < n → ∀ b off, ao = some ⟨b, off, none⟩ → b ≠ q
theorem Rd.off {w : World} {p : Nat} {ao : Option Addr} {n cap : Nat} {bs : List UInt8} {s : St} (h : Rd w p ao n cap bs s) {q : Nat} (hq : w.heap.size ≤ q) : Off p q n ao := by
  have hl := cell_lt h.c0
  refine ⟨by omega, fun h0 b off e => ?_⟩
  subst e
  have := cell_lt (h.ls.row 0 (by rw [← h.ls.len]; exact h0))
  omega
theorem Rd.other {u : World} {p q o n cap : Nat} {ao : Option Addr} {bs : List UInt8} {s : St} (h : Rd u p ao n cap bs s) (k : Off p q n ao) (x : Value) : Rd (u.setCell ⟨q, o, none⟩ x) p ao n cap bs s := by
  have U : Upd u q (u.setCell ⟨q, o, none⟩ x) := Upd.set x
  have hl := cell_lt h.c0
  have hp : p ≠ q := fun e => k.ne e.symm
  exact ⟨by rw [U.cell _ _ hl hp]; exact h.c0, by rw [U.cell _ _ hl hp]; exact h.c1, by rw [U.cell _ _ hl hp]; exact h.c2, fun o => by rw [U.frozen _ _ hl]; exact h.fz o, h.ls.updN U k.bytes, h.apart, h.place⟩
/-- three numbers' own place -/
structure D3 (u : World) (b : Nat) (y m d : Int) : Prop where
  c0 : u.cell? ⟨b, 0, none⟩ = some (.int .i64 y)
  c1 : u.cell? ⟨b, 1, none⟩ = some (.int .i64 m)
  c2 : u.cell? ⟨b, 2, none⟩ = some (.int .i64 d)
  fz : ∀ o, u.frozen? ⟨b, o, none⟩ = false
theorem D3.upd {u v : World} {p b : Nat} {y m d : Int} (h : D3 u b y m d) (k : Upd u p v) (hp : b ≠ p) : D3 v b y m d := by
  have hl := cell_lt h.c0
  exact ⟨by rw [k.cell _ _ hl hp]; exact h.c0, by rw [k.cell _ _ hl hp]; exact h.c1, by rw [k.cell _ _ hl hp]; exact h.c2, fun o => by rw [k.frozen _ _ hl]; exact h.fz o⟩
theorem D3.s0 {u : World} {b : Nat} {y m d : Int} (h : D3 u b y m d) (x : Int) : D3 (u.setCell ⟨b, 0, none⟩ (.int .i64 x)) b x m d :=
  ⟨by simp [go_sem, h.c0], by simp [go_sem, h.c1], by simp [go_sem, h.c2], fun o => by simp [go_sem, h.fz]⟩
theorem D3.s1 {u : World} {b : Nat} {y m d : Int} (h : D3 u b y m d) (x : Int) : D3 (u.setCell ⟨b, 1, none⟩ (.int .i64 x)) b y x d :=
  ⟨by simp [go_sem, h.c0], by simp [go_sem, h.c1], by simp [go_sem, h.c2], fun o => by simp [go_sem, h.fz]⟩
theorem D3.s2 {u : World} {b : Nat} {y m d : Int} (h : D3 u b y m d) (x : Int) : D3 (u.setCell ⟨b, 2, none⟩ (.int .i64 x)) b y m x :=
  ⟨by simp [go_sem, h.c0], by simp [go_sem, h.c1], by simp [go_sem, h.c2], fun o => by simp [go_sem, h.fz]⟩
theorem cmd_text (p : Nat) (ao : Option Addr) (n cap : Nat) (bs : List UInt8) (s : St) (w : World) (hR : Rd w p ao n cap bs s) :
    Calls Try.prog 54 #[.pointer (some ⟨p, 0, none⟩)] w fun e w' => e = .returned (.string (rText bs 64 s).1) ∧ Rd w' p ao n cap bs (rText bs 64 s).2 ∧ Upd w p w' := by
  have HR := Lib.hid hR
  clear hR
  go_enter Try.func54, Try.ntmps54
  go_wp2_with fail
  refine (rd_text p ao n cap bs 64 s w HR.out).mono ?_
  rintro e w1 ⟨rfl, hR1, hU1⟩
  have HR1 := Lib.hid hR1
  have HU1 := Lib.hid hU1
  clear hR1 hU1
  go_wp2_with fail
  go_ret
  exact ⟨rfl, HR1.out, HU1.out⟩
set_option maxHeartbeats 2000000 in
theorem cmd_day (p : Nat) (ao : Option Addr) (n cap : Nat) (bs : List UInt8) (s : St) (w : World) (hR : Rd w p ao n cap bs s) :
    Calls Try.prog 55 #[.pointer (some ⟨p, 0, none⟩)] w fun e w' => e = .returned (.agg #[.int .i64 (rDay bs s).1.1, .int .i64 (rDay bs s).1.2.1, .int .i64 (rDay bs s).1.2.2]) ∧ Rd w' p ao n cap bs (rDay bs s).2 ∧ Upd w p w' := by
  have hlt := cell_lt hR.c0
  have HO0 := Lib.hid (hR.off (Nat.le_refl _))
  have HO1 := Lib.hid (hR.off (Nat.le_succ _))
  have hb0 : Below w.heap.size w ((w.alloc (.cells #[.int .i64 0, .int .i64 0, .int .i64 0] 30)).alloc (.cells #[.int .i64 0, .int .i64 0, .int .i64 0] 30)) := below_box (below_box (Below.refl _ _) _) _
  have HB0 := Lib.hid hb0
  have HR := Lib.hid (hR.below hb0)
  have HA : Hid (D3 ((w.alloc (.cells #[.int .i64 0, .int .i64 0, .int .i64 0] 30)).alloc (.cells #[.int .i64 0, .int .i64 0, .int .i64 0] 30)) w.heap.size 0 0 0) := Lib.hid ⟨by simp [go_sem], by simp [go_sem], by simp [go_sem], fun o => by simp [go_sem]⟩
  have HD : Hid (D3 ((w.alloc (.cells #[.int .i64 0, .int .i64 0, .int .i64 0] 30)).alloc (.cells #[.int .i64 0, .int .i64 0, .int .i64 0] 30)) (w.heap.size + 1) 0 0 0) := Lib.hid ⟨by simp [go_sem], by simp [go_sem], by simp [go_sem], fun o => by simp [go_sem]⟩
  have hnp : w.heap.size ≠ p := by omega
  have hnp1 : w.heap.size + 1 ≠ p := by omega
  have hn01 : w.heap.size ≠ w.heap.size + 1 := by omega
  clear hR hb0
  go_enter Try.func55, Try.ntmps55
  go_wp2_with fail
  refine (rd_num p ao n cap bs s _ HR.out).mono ?_
  rintro e w1 ⟨rfl, hR1, hU1⟩
  obtain ⟨v1, s1, hv1⟩ : ∃ v1 s1, rNum bs s = (v1, s1) := ⟨_, _, rfl⟩
  rw [hv1] at hR1 ⊢
  dsimp only at hR1 ⊢
  have D1 := HD.out.upd hU1 hnp1
  have HD1 := Lib.hid (D1.s0 v1)
  have HA1 := Lib.hid ((HA.out.upd hU1 hnp).upd (Upd.set (p := w.heap.size + 1) (o := 0) (.int .i64 v1)) hn01)
  have HR1 := Lib.hid (hR1.other (o := 0) HO1.out (.int .i64 v1))
  have HU1 := Lib.hid (((Upd.of p HB0.out).trans hU1).fresh (q := w.heap.size + 1) (o := 0) (by omega) (.int .i64 v1))
  obtain ⟨d0, d1, d2, df⟩ := D1
  clear hR1 hU1
  go_wp2_with fail
  refine (rd_num p ao n cap bs s1 _ HR1.out).mono ?_
  rintro e w2 ⟨rfl, hR2, hU2⟩
  obtain ⟨v2, s2, hv2⟩ : ∃ v2 s2, rNum bs s1 = (v2, s2) := ⟨_, _, rfl⟩
  rw [hv2] at hR2 ⊢
  dsimp only at hR2 ⊢
  have D2 := HD1.out.upd hU2 hnp1
  have HD2 := Lib.hid (D2.s1 v2)
  have HA2 := Lib.hid ((HA1.out.upd hU2 hnp).upd (Upd.set (p := w.heap.size + 1) (o := 1) (.int .i64 v2)) hn01)
  have HR2 := Lib.hid (hR2.other (o := 1) HO1.out (.int .i64 v2))
  have HU2 := Lib.hid ((HU1.out.trans hU2).fresh (q := w.heap.size + 1) (o := 1) (by omega) (.int .i64 v2))
  clear hR2 hU2 d0 d1 d2 df
  obtain ⟨d0, d1, d2, df⟩ := D2
  go_wp2_with fail
  refine (rd_num p ao n cap bs s2 _ HR2.out).mono ?_
  rintro e w3 ⟨rfl, hR3, hU3⟩
  obtain ⟨v3, s3, hv3⟩ : ∃ v3 s3, rNum bs s2 = (v3, s3) := ⟨_, _, rfl⟩
  rw [hv3] at hR3 ⊢
  dsimp only at hR3 ⊢
  have HV : Hid (rDay bs s = ((v1, v2, v3), s3)) := Lib.hid (by
    unfold rDay
    rw [hv1]
    dsimp only
    rw [hv2]
    dsimp only
    rw [hv3])
  have D3' := HD2.out.upd hU3 hnp1
  have A3 := HA2.out.upd hU3 hnp
  have HR3 := Lib.hid hR3
  have HU3 := Lib.hid (HU2.out.trans hU3)
  clear hR3 hU3 d0 d1 d2 df
  obtain ⟨d0, d1, d2, df⟩ := D3'
  obtain ⟨a0, a1, a2, af⟩ := A3
  go_wp2_with fail
  refine bodyPost_ret (v := .agg #[.int .i64 v1, .int .i64 v2, .int .i64 v3]) (by simp [results, Try.results55, go_sem, a0, a1, a2]) rfl ⟨by rw [HV.out], ?_, ?_⟩
  · rw [HV.out]
    exact (((HR3.out.other HO1.out _).other HO0.out _).other HO0.out _).other HO0.out _
  · exact (((HU3.out.fresh (Nat.le_succ _) _).fresh (Nat.le_refl _) _).fresh (Nat.le_refl _) _).fresh (Nat.le_refl _) _
end Go.Proofs.Ytndfhnaafaijcaa

/- CONTRACTS OF PACKAGE command: lines, out of a reader. -/
set_option linter.unusedVariables false
namespace Go.Proofs.Ytndfhnaafaijcaa
open Go.RowKit
open Mem Pk Cm

/-- a line's own place -/
structure L4 (u : World) (b : Nat) (r : Ln.T) : Prop where
  c0 : u.cell? ⟨b, 0, none⟩ = some (.string r.text)
  c1 : u.cell? ⟨b, 1, none⟩ = some (.string r.category)
  c2 : u.cell? ⟨b, 2, none⟩ = some (.int .i64 r.count)
  c3 : u.cell? ⟨b, 3, none⟩ = some (.int .i64 r.price)
  fz : ∀ o, u.frozen? ⟨b, o, none⟩ = false
theorem L4.upd {u v : World} {p b : Nat} {r : Ln.T} (h : L4 u b r) (k : Upd u p v) (hp : b ≠ p) : L4 v b r := by
  have hl := cell_lt h.c0
  exact ⟨by rw [k.cell _ _ hl hp]; exact h.c0, by rw [k.cell _ _ hl hp]; exact h.c1, by rw [k.cell _ _ hl hp]; exact h.c2, by rw [k.cell _ _ hl hp]; exact h.c3, fun o => by rw [k.frozen _ _ hl]; exact h.fz o⟩
theorem L4.s0 {u : World} {b : Nat} {r : Ln.T} (h : L4 u b r) (x : ByteArray) : L4 (u.setCell ⟨b, 0, none⟩ (.string x)) b { r with text := x } :=
  ⟨by simp [go_sem, h.c0], by simp [go_sem, h.c1], by simp [go_sem, h.c2], by simp [go_sem, h.c3], fun o => by simp [go_sem, h.fz]⟩
theorem L4.s1 {u : World} {b : Nat} {r : Ln.T} (h : L4 u b r) (x : ByteArray) : L4 (u.setCell ⟨b, 1, none⟩ (.string x)) b { r with category := x } :=
  ⟨by simp [go_sem, h.c0], by simp [go_sem, h.c1], by simp [go_sem, h.c2], by simp [go_sem, h.c3], fun o => by simp [go_sem, h.fz]⟩
theorem L4.s2 {u : World} {b : Nat} {r : Ln.T} (h : L4 u b r) (x : Int) : L4 (u.setCell ⟨b, 2, none⟩ (.int .i64 x)) b { r with count := x } :=
  ⟨by simp [go_sem, h.c0], by simp [go_sem, h.c1], by simp [go_sem, h.c2], by simp [go_sem, h.c3], fun o => by simp [go_sem, h.fz]⟩
theorem L4.s3 {u : World} {b : Nat} {r : Ln.T} (h : L4 u b r) (x : Int) : L4 (u.setCell ⟨b, 3, none⟩ (.int .i64 x)) b { r with price := x } :=
  ⟨by simp [go_sem, h.c0], by simp [go_sem, h.c1], by simp [go_sem, h.c2], by simp [go_sem, h.c3], fun o => by simp [go_sem, h.fz]⟩
/-- rows of the call's own stay, where another block turns -/
theorem Ln.own_upd {w u : World} {B p : Nat} {v : Value} {xs : List Ln.T} (h : Ln.Own w B v xs) (k : Upd w p u) (hp : p < B) : Ln.Own u B v xs := by
  obtain ⟨h1, h2⟩ := h
  refine ⟨h1, ?_⟩
  rcases h2 with h2 | ⟨g, cap, cur, h', hb, hg, h3⟩
  · exact .inl h2
  · refine .inr ⟨g, cap, cur, h', hb, ?_, h3⟩
    have hl : g < w.heap.size := by
      obtain ⟨hl, _⟩ := Array.getElem?_eq_some_iff.1 hg
      exact hl
    rw [k.block g hl (by omega)]
    exact hg
theorem Ln.own_set {w : World} {B q o : Nat} {v x : Value} {xs : List Ln.T} (h : Ln.Own w B v xs) (hq : v.ownBlock ≠ some q) : Ln.Own (w.setCell ⟨q, o, none⟩ x) B v xs := by
  obtain ⟨h1, h2⟩ := h
  refine ⟨h1, ?_⟩
  rcases h2 with h2 | ⟨g, cap, cur, h', hb, hg, h3⟩
  · exact .inl h2
  · refine .inr ⟨g, cap, cur, h', hb, ?_, h3⟩
    rw [Below.heap_setCell w ⟨q, o, none⟩ x g (by
      intro e
      apply hq
      rw [h']
      show some g = some q
      rw [show g = q from e])]
    exact hg
theorem Ln.own_lt {w : World} {B : Nat} {v : Value} {xs : List Ln.T} (h : Ln.Own w B v xs) {q : Nat} (hq : w.heap.size ≤ q) : v.ownBlock ≠ some q := by
  intro e
  rcases h.2 with ⟨h', _⟩ | ⟨g, cap, cur, h', hb, hg, h3⟩
  · rw [h'] at e
    cases e
  · rw [h'] at e
    obtain ⟨hl, _⟩ := Array.getElem?_eq_some_iff.1 hg
    simp only [Value.ownBlock, Option.some.injEq] at e
    omega
theorem Ln.heap_set (x : World) (b o : Nat) (v : Value) (r : Ln.T) : ((x.setCell ⟨b, o, none⟩ v).alloc (.cells #[.string r.text, .string r.category, .int .i64 r.count, .int .i64 r.price] 56)).heap[x.heap.size]? = some (Ln.block r) := by
  have h := heap_alloc_new (x.setCell ⟨b, o, none⟩ v) (Ln.block r)
  rw [show (x.setCell ⟨b, o, none⟩ v).heap.size = x.heap.size by simp] at h
  exact h
/-- what lies below stays -/
theorem Upd.past {w X Y : World} {p : Nat} (h : Upd w p X) (k : Below w.heap.size X Y) : Upd w p Y :=
  ⟨Nat.le_trans h.size k.size, fun b o hb hp => by rw [k.cell (p := ⟨b, o, none⟩) hb, h.cell b o hb hp], fun b o hb => by rw [k.frozen (p := ⟨b, o, none⟩) hb, h.frozen b o hb], fun w0 a c => (h.below w0 a c).trans (k.mono a.size), fun b hb hp => by rw [k.block b hb, h.block b hb hp]⟩
theorem Rd.past {X Y : World} {B p : Nat} {ao : Option Addr} {n cap : Nat} {bs : List UInt8} {s : St} (h : Rd X p ao n cap bs s) (k : Below B X Y) (hp : p < B) (hb : 0 < n → ∀ b off, ao = some ⟨b, off, none⟩ → b < B) : Rd Y p ao n cap bs s := by
  refine ⟨by rw [k.cell (p := ⟨p, 0, none⟩) hp]; exact h.c0, by rw [k.cell (p := ⟨p, 1, none⟩) hp]; exact h.c1, by rw [k.cell (p := ⟨p, 2, none⟩) hp]; exact h.c2, fun o => by rw [k.frozen (p := ⟨p, o, none⟩) hp]; exact h.fz o, ⟨h.ls.len, h.ls.fits, h.ls.reach, h.ls.nil, ?_⟩, h.apart, h.place⟩
  rcases h.ls.seg with e | ⟨b, off, e, hc⟩
  · exact .inl e
  · by_cases h0 : 0 < n
    · exact .inr ⟨b, off, e, fun i hi => by rw [k.cell (p := ⟨b, off + i, none⟩) (hb h0 b off e)]; exact hc i hi⟩
    · exact .inl (List.length_eq_zero_iff.1 (by rw [← h.ls.len]; omega))
theorem Rd.bytes_lt {w : World} {p : Nat} {ao : Option Addr} {n cap : Nat} {bs : List UInt8} {s : St} (h : Rd w p ao n cap bs s) : 0 < n → ∀ b off, ao = some ⟨b, off, none⟩ → b < w.heap.size := by
  intro h0 b off e
  subst e
  exact cell_lt (h.ls.row 0 (by rw [← h.ls.len]; exact h0))
theorem rText_size (bs : List UInt8) (most : Int) (s : St) : (rText bs most s).1.size ≤ bs.length := by
  unfold rText str
  rw [show ∀ l : List UInt8, (ByteArray.mk l.toArray).size = l.length from fun _ => rfl]
  rw [List.length_drop, List.length_take]
  omega
theorem rCount_le (bs : List UInt8) (most : Int) (s : St) (h : 0 ≤ most) : (rCount bs most s).1 ≤ most := by
  unfold rCount
  split
  · exact h
  · unfold rWithin
    split
    · exact h
    · split
      · exact h
      · omega
theorem rLines_short (bs : List UInt8) (hb : bs.length ≤ 140737488355328) (s : St) : Ln.Short (rLine bs s).1 :=
  ⟨Nat.le_trans (rText_size _ _ _) hb, Nat.le_trans (rText_size _ _ _) hb, rNum_fit _ _, rNum_fit _ _⟩
theorem rLines_next (bs : List UInt8) (k N : Nat) (h : k < N) (s : St) : (rLines bs (N - k) s).1 = (rLine bs s).1 :: (rLines bs (N - (k + 1)) (rLine bs s).2).1 ∧ (rLines bs (N - k) s).2 = (rLines bs (N - (k + 1)) (rLine bs s).2).2 := by
  rw [show N - k = (N - (k + 1)) + 1 by omega, rLines]
  exact ⟨rfl, rfl⟩
set_option maxHeartbeats 4000000 in
theorem cmd_lines (p : Nat) (ao : Option Addr) (n cap : Nat) (bs : List UInt8) (s : St) (w : World) (hR : Rd w p ao n cap bs s) (hbs : bs.length ≤ 1000000) :
    Calls Try.prog 56 #[.pointer (some ⟨p, 0, none⟩)] w fun e w' => (∃ v, e = .returned v ∧ Ln.Own w' w.heap.size v (rLines bs (rCount bs 12 s).1.toNat (rCount bs 12 s).2).1 ∧ (∀ r ∈ (rLines bs (rCount bs 12 s).1.toNat (rCount bs 12 s).2).1, Ln.Short r)) ∧ Rd w' p ao n cap bs (rLines bs (rCount bs 12 s).1.toNat (rCount bs 12 s).2).2 ∧ Upd w p w' := by
  have hlt := cell_lt hR.c0
  have HR0 := Lib.hid hR
  have HBs := Lib.hid hbs
  have hpos := rCount_pos bs 12 s
  have hle := rCount_le bs 12 s (by omega)
  clear hR hbs
  go_enter Try.func56, Try.ntmps56
  go_wp2_with fail
  refine (rd_count p ao n cap bs 12 s w HR0.out).mono ?_
  rintro e w1 ⟨rfl, hR1, hU1⟩
  obtain ⟨v, s1, hv⟩ : ∃ v s1, rCount bs 12 s = (v, s1) := ⟨_, _, rfl⟩
  have HV := Lib.hid hv
  rw [hv] at hR1 hpos hle ⊢
  dsimp only at hR1 hpos hle ⊢
  obtain ⟨N, rfl⟩ : ∃ N : Nat, v = N := ⟨v.toNat, by omega⟩
  have HR1 := Lib.hid hR1
  have HU1 := Lib.hid hU1
  clear hR1 hU1 hv
  go_wp2_with fail
  go_loopw [3, 4, 7] (fun lv _ i wr => ∃ (k : Nat) (sv : Value) (st : St) (done : List Ln.T), sv = lv ∧ i = .int .i64 k ∧ k ≤ N ∧ Hid (done.length = k) ∧ Hid (Ln.Own wr w.heap.size sv done) ∧ Hid (∀ r ∈ done, Ln.Short r) ∧ Hid (Rd wr p ao n cap bs st) ∧ Hid (Upd w p wr) ∧ Hid (done ++ (rLines bs (N - k) st).1 = (rLines bs N s1).1 ∧ (rLines bs (N - k) st).2 = (rLines bs N s1).2)) (fun _ _ i _ => N - (intOf i).toNat)
  case atStart => exact ⟨0, _, s1, [], rfl, rfl, by omega, Lib.hid rfl, Lib.hid (Ln.own_nil _ _), Lib.hid (fun _ h => by cases h), HR1, HU1, Lib.hid ⟨rfl, rfl⟩⟩
  case round =>
    obtain ⟨k, sv, st, done, rfl, rfl, hk, HDn, HO, HSh, HR, HU, HX⟩ := hrel
    have hsw := HU.out.size
    by_cases hlt2 : k < N
    · have HNx := Lib.hid (rLines_next bs k N hlt2 st)
      have hpr : wr.heap.size ≠ p := by omega
      have hb0 : Below wr.heap.size wr (wr.alloc (.cells #[.string .empty, .string .empty, .int .i64 0, .int .i64 0] 56)) := below_box (Below.refl _ _) _
      have HRa := Lib.hid (HR.out.below hb0)
      have HUa := Lib.hid (HU.out.trans (Upd.of p hb0))
      have HOff := Lib.hid (HR.out.off (Nat.le_refl _))
      have HOw := Lib.hid (Ln.own_lt HO.out (Nat.le_refl _))
      have HOa := Lib.hid (Ln.own_below HO.out hb0)
      have HLa : Hid (L4 (wr.alloc (.cells #[.string .empty, .string .empty, .int .i64 0, .int .i64 0] 56)) wr.heap.size ⟨.empty, .empty, 0, 0⟩) := Lib.hid ⟨by simp [go_sem], by simp [go_sem], by simp [go_sem], by simp [go_sem], fun o => by simp [go_sem]⟩
      clear hb0
      go_wp2_with fail
      refine (cmd_text p ao n cap bs st _ HRa.out).mono ?_
      rintro e x1 ⟨rfl, hR1, hU1⟩
      obtain ⟨t1, st1, ht1⟩ : ∃ t1 st1, rText bs 64 st = (t1, st1) := ⟨_, _, rfl⟩
      rw [ht1] at hR1 ⊢
      dsimp only at hR1 ⊢
      have l1 := HLa.out.upd hU1 hpr
      have HL1 := Lib.hid (l1.s0 t1)
      have HR1 := Lib.hid (hR1.other (o := 0) HOff.out (.string t1))
      have HO1 := Lib.hid (Ln.own_set (o := 0) (x := .string t1) (Ln.own_upd HOa.out hU1 hlt) HOw.out)
      have HU1 := Lib.hid ((HUa.out.trans hU1).fresh (q := wr.heap.size) (o := 0) hsw (.string t1))
      clear hR1 hU1
      obtain ⟨d0, d1, d2, d3, df⟩ := l1
      go_wp2_with fail
      refine (cmd_text p ao n cap bs st1 _ HR1.out).mono ?_
      rintro e x2 ⟨rfl, hR2, hU2⟩
      obtain ⟨t2, st2, ht2⟩ : ∃ t2 st2, rText bs 64 st1 = (t2, st2) := ⟨_, _, rfl⟩
      rw [ht2] at hR2 ⊢
      dsimp only at hR2 ⊢
      have l2 := HL1.out.upd hU2 hpr
      have HL2 := Lib.hid (l2.s1 t2)
      have HR2 := Lib.hid (hR2.other (o := 1) HOff.out (.string t2))
      have HO2 := Lib.hid (Ln.own_set (o := 1) (x := .string t2) (Ln.own_upd HO1.out hU2 hlt) HOw.out)
      have HU2 := Lib.hid ((HU1.out.trans hU2).fresh (q := wr.heap.size) (o := 1) hsw (.string t2))
      clear hR2 hU2 d0 d1 d2 d3 df
      obtain ⟨d0, d1, d2, d3, df⟩ := l2
      go_wp2_with fail
      refine (rd_num p ao n cap bs st2 _ HR2.out).mono ?_
      rintro e x3 ⟨rfl, hR3, hU3⟩
      obtain ⟨t3, st3, ht3⟩ : ∃ t3 st3, rNum bs st2 = (t3, st3) := ⟨_, _, rfl⟩
      rw [ht3] at hR3 ⊢
      dsimp only at hR3 ⊢
      have l3 := HL2.out.upd hU3 hpr
      have HL3 := Lib.hid (l3.s2 t3)
      have HR3 := Lib.hid (hR3.other (o := 2) HOff.out (.int .i64 t3))
      have HO3 := Lib.hid (Ln.own_set (o := 2) (x := .int .i64 t3) (Ln.own_upd HO2.out hU3 hlt) HOw.out)
      have HU3 := Lib.hid ((HU2.out.trans hU3).fresh (q := wr.heap.size) (o := 2) hsw (.int .i64 t3))
      clear hR3 hU3 d0 d1 d2 d3 df
      obtain ⟨d0, d1, d2, d3, df⟩ := l3
      go_wp2_with fail
      refine (rd_num p ao n cap bs st3 _ HR3.out).mono ?_
      rintro e x4 ⟨rfl, hR4, hU4⟩
      obtain ⟨t4, st4, ht4⟩ : ∃ t4 st4, rNum bs st3 = (t4, st4) := ⟨_, _, rfl⟩
      rw [ht4] at hR4 ⊢
      dsimp only at hR4 ⊢
      have HLine : Hid (rLine bs st = (⟨t1, t2, t3, t4⟩, st4)) := Lib.hid (by
        unfold rLine
        rw [ht1]
        dsimp only
        rw [ht2]
        dsimp only
        rw [ht3]
        dsimp only
        rw [ht4])
      have HShx : Hid (Ln.Short ⟨t1, t2, t3, t4⟩) := Lib.hid (by
        have h := rLines_short bs (by have := HBs.out; omega) st
        rw [HLine.out] at h
        exact h)
      have l4 := HL3.out.upd hU4 hpr
      have HR4 := Lib.hid (hR4.other (o := 3) HOff.out (.int .i64 t4))
      have HO4 := Lib.hid (Ln.own_set (o := 3) (x := .int .i64 t4) (Ln.own_upd HO3.out hU4 hlt) HOw.out)
      have HU4 := Lib.hid ((HU3.out.trans hU4).fresh (q := wr.heap.size) (o := 3) hsw (.int .i64 t4))
      clear hR4 hU4 d0 d1 d2 d3 df ht1 ht2 ht3 ht4
      obtain ⟨d0, d1, d2, d3, df⟩ := l4
      have hsx := HU4.out.size
      rw [show (x4.setCell ⟨wr.heap.size, 3, none⟩ (.int .i64 t4)).heap.size = x4.heap.size by simp] at hsx
      have hdl := HDn.out
      go_wp2_with (at_builtin; go_must (refine Ln.wpList_append _ rfl _ _ rfl w.heap.size sv done rfl (Ln.own_alloc HO4.out _) (some ⟨x4.heap.size, 0, none⟩) 1 1 [⟨t1, t2, t3, t4⟩] rfl rfl (fun h => by cases h) (Ln.seg_block (Ln.heap_set x4 wr.heap.size 3 (.int .i64 t4) ⟨t1, t2, t3, t4⟩)) (by omega) (by simp; omega) ?_))
      intro v5 y5 o5 gr5 _
      have hb5 : Below w.heap.size (x4.setCell ⟨wr.heap.size, 3, none⟩ (.int .i64 t4)) y5 := (((Below.refl w.heap.size _).alloc (by simpa using hsx) _).grown gr5 (by simp; omega) (Ln.own_ge HO4.out))
      have HO5 := Lib.hid o5
      have HR5 := Lib.hid (HR4.out.past hb5 hlt HR0.out.bytes_lt)
      have HU5 := Lib.hid (HU4.out.past hb5)
      clear o5 gr5 hb5 d0 d1 d2 d3 df
      go_wp2_with fail
      go_roundw
      case rel =>
        refine ⟨k + 1, v5, st4, done ++ [⟨t1, t2, t3, t4⟩], rfl, by go_num, by omega, Lib.hid (by rw [List.length_append, HDn.out]; rfl), HO5, Lib.hid ?_, HR5, HU5, Lib.hid ?_⟩
        · intro r hr
          rcases List.mem_append.1 hr with h | h
          · exact HSh.out r h
          · obtain rfl := List.mem_singleton.1 h
            exact HShx.out
        · have h1 := HNx.out
          rw [HLine.out] at h1
          have h2 := HX.out
          rw [h1.1, h1.2] at h2
          rw [List.append_assoc]
          exact h2
      case measure => simp [intOf]; omega
    · obtain rfl : k = N := by omega
      have HE : Hid (done = (rLines bs k s1).1 ∧ st = (rLines bs k s1).2) := Lib.hid (by
        have h := HX.out
        rw [Nat.sub_self] at h
        simpa [rLines] using h)
      have HF : Hid (rCount bs 12 s = ((k : Int), s1)) := HV
      go_wp2_with fail
      go_ret
      rw [HF.out]
      dsimp only
      rw [Int.toNat_natCast, ← HE.out.1, ← HE.out.2]
      exact ⟨⟨sv, rfl, HO.out, HSh.out⟩, HR.out, HU.out⟩
end Go.Proofs.Ytndfhnaafaijcaa

/- A FLAT COMMAND IN A BLOCK OF ITS OWN, cell by cell and as a whole. (By genread9.py.) -/
namespace Go.Proofs.Ytndfhnaafaijcaa
open Go.RowKit
open Mem Pk Cm

/-- a flat command's block -/
def Cm.Blk (w : World) (g : Nat) (c : Cm.T) : Prop := w.heap[g]? = some (.cells (Cm.rv c).toArray 37 (0, 0))
theorem Cm.Blk.lt {w : World} {g : Nat} {c : Cm.T} (h : Cm.Blk w g c) : g < w.heap.size := by
  obtain ⟨hg, _⟩ := Array.getElem?_eq_some_iff.1 h
  exact hg
theorem Cm.Blk.cell {w : World} {g : Nat} {c : Cm.T} (h : Cm.Blk w g c) (i : Nat) : w.cell? ⟨g, i, none⟩ = (Cm.rv c)[i]? := by
  rw [cell_of_row w g _ _ _ _ h]
  simp
theorem Cm.Blk.fz {w : World} {g : Nat} {c : Cm.T} (h : Cm.Blk w g c) (i : Nat) : w.frozen? ⟨g, i, none⟩ = false := frozen_of_row w g i _ _ h
theorem Cm.Blk.set {w : World} {g : Nat} {c c' : Cm.T} (h : Cm.Blk w g c) (i : Nat) (v : Value) (e : (Cm.rv c).set i v = Cm.rv c') : Cm.Blk (w.setCell ⟨g, i, none⟩ v) g c' := by
  have h1 := heap_setCell_same _ g i _ _ v h
  unfold Cm.Blk
  rw [h1, List.setIfInBounds_toArray, e]
theorem Cm.Blk.upd {w u : World} {p g : Nat} {c : Cm.T} (h : Cm.Blk w g c) (k : Upd w p u) (hp : g ≠ p) : Cm.Blk u g c := (k.block g h.lt hp).trans h
theorem Cm.Blk.below {w u : World} {g : Nat} {c : Cm.T} (h : Cm.Blk w g c) (k : Below w.heap.size w u) : Cm.Blk u g c := (k.block g h.lt).trans h
theorem Cm.Blk.other {w : World} {q o g : Nat} {c : Cm.T} (h : Cm.Blk w g c) (x : Value) (hp : g ≠ q) : Cm.Blk (w.setCell ⟨q, o, none⟩ x) g c := (Below.heap_setCell w ⟨q, o, none⟩ x g hp).trans h
/-- at the list of a plain region's operations: a load of the whole, a store of the whole -/
theorem Cm.wplB_load {ops : Array Oper} {rest : List Oper} {o : Oper} {a : Act} {w : World} {Q : Exit → Act → World → Prop} {x : Operand} {g : Nat} {c : Cm.T} (ho : o.op = .load 37 x) (hgd : o.guard = none)
    (hx : a.eval x = .pointer (some ⟨g, 0, none⟩)) (hg : Cm.Blk w g c) (h : wpList Try.prog ops Q rest (a.put o.dst (Cm.val c)) w) : wpList Try.prog ops Q (o :: rest) a w :=
  Cm.wpl_load ho hgd hx hg rfl h
theorem Cm.wplB_store {ops : Array Oper} {rest : List Oper} {o : Oper} {a : Act} {w : World} {Q : Exit → Act → World → Prop} {x y : Operand} {g : Nat} {old c : Cm.T} (ho : o.op = .store 37 x y) (hgd : o.guard = none)
    (hx : a.eval x = .pointer (some ⟨g, 0, none⟩)) (hy : a.eval y = Cm.val c) (hg : Cm.Blk w g old)
    (h : wpList Try.prog ops Q rest (a.put o.dst undef) (w.setRow g (Cm.rv c).toArray)) : wpList Try.prog ops Q (o :: rest) a w :=
  wpList_store_row hgd 37 x y ho g (Cm.rv c).toArray hx hy 37 (Cm.rv old).toArray hg (by rw [Cm.info]; rfl) rfl (by simp [Cm.rv, Value.oneCell']) h
theorem Cm.Blk.row {w : World} {g : Nat} {old : Cm.T} (h : Cm.Blk w g old) (c : Cm.T) : Cm.Blk (w.setRow g (Cm.rv c).toArray) g c := setRow_heap w g _ _ 37 _ h
theorem Cm.results_blk {fn : Func} {p : Tmp} (h : fn.results = #[.cell p 37]) {tmps : Array Value} {w : World} {g : Nat} {c : Cm.T} (hp : tmps.getD p undef = .pointer (some ⟨g, 0, none⟩))
    (hg : Cm.Blk w g c) : (results fn tmps).run Try.prog w = .ok (Cm.val c) w := Cm.results_row h hp hg rfl
theorem Cm.results_blk2 {fn : Func} {p q : Tmp} (h : fn.results = #[.cell p 37, .tmp q]) {tmps : Array Value} {w : World} {g : Nat} {c : Cm.T} (hp : tmps.getD p undef = .pointer (some ⟨g, 0, none⟩))
    (hg : Cm.Blk w g c) : (results fn tmps).run Try.prog w = .ok (.tuple #[Cm.val c, tmps.getD q undef]) w := Cm.results_row2 h hp hg rfl
theorem below_row {w : World} {B g : Nat} (h : B ≤ g) (cs : Array Value) : Below B w (w.setRow g cs) := below_setRow (Below.refl _ _) h _
theorem Cm.in_of {w : World} {c : Cm.T} {ls : List Ln.T} (hf : (c.sem ls).Fit') (hk : Fit c.kind) (hL : Ln.Ls w c.ao c.n c.cap ls) : Cm.In w c ls :=
  ⟨hf.series, hf.cat, hf.ofs, hk, hf.limit, hf.fy, hf.fm, hf.fd, hf.bp, hf.y, hf.m, hf.d, hf.ofn, hf.session, hL⟩
theorem rLines_shorts (bs : List UInt8) (hb : bs.length ≤ 140737488355328) : ∀ (k : Nat) (s : St), ∀ r ∈ (rLines bs k s).1, Ln.Short r
  | 0, _, r, h => by cases h
  | k + 1, s, r, h => by
    rcases List.mem_cons.1 h with rfl | h
    · exact rLines_short bs hb s
    · exact rLines_shorts bs hb k _ r h
theorem Ln.Ls.setRow {w : World} {g : Nat} {cs : Array Value} {ao : Option Addr} {n cap : Nat} {rs : List Ln.T} (h : Ln.Ls w ao n cap rs) (hp : ∀ b off, ao = some ⟨b, off, none⟩ → b ≠ g) : Ln.Ls (w.setRow g cs) ao n cap rs := by
  refine ⟨h.len, h.fits, h.reach, h.nil, ?_, h.short⟩
  rcases h.seg with e | ⟨b, off, e, hc⟩
  · exact .inl e
  · refine .inr ⟨b, off, e, fun i hi => ?_⟩
    have hk : ∀ o, (w.setRow g cs).cell? ⟨b, o, none⟩ = w.cell? ⟨b, o, none⟩ := fun o => World.cell?_of_block (w := w) (setRow_other w g b cs (hp b off e))
    have c := hc i hi
    exact ⟨by rw [hk]; exact c.c0, by rw [hk]; exact c.c1, by rw [hk]; exact c.c2, by rw [hk]; exact c.c3⟩
theorem Ln.Ls.past {X Y : World} {B : Nat} {ao : Option Addr} {n cap : Nat} {rs : List Ln.T} (h : Ln.Ls X ao n cap rs) (k : Below B X Y) (hb : ∀ b off, ao = some ⟨b, off, none⟩ → b < B) : Ln.Ls Y ao n cap rs := by
  refine ⟨h.len, h.fits, h.reach, h.nil, ?_, h.short⟩
  rcases h.seg with e | ⟨b, off, e, hc⟩
  · exact .inl e
  · refine .inr ⟨b, off, e, fun i hi => ?_⟩
    have hl := hb b off e
    have c := hc i hi
    exact ⟨by rw [k.cell hl]; exact c.c0, by rw [k.cell hl]; exact c.c1, by rw [k.cell hl]; exact c.c2, by rw [k.cell hl]; exact c.c3⟩
/-- what is asked of read -/
def ReadE (p : Nat) (ao : Option Addr) (n cap : Nat) (bs : List UInt8) (a : S × St) (w : World) (e : Ending) (w' : World) : Prop :=
  (∃ c, e = .returned (Cm.val c) ∧ Cm.In w' c a.1.lines ∧ c.sem a.1.lines = a.1 ∧ c.n ≤ 1000) ∧ Rd w' p ao n cap bs a.2 ∧ Upd w p w'
theorem rDay_fit (bs : List UInt8) (s : St) : Fit (rDay bs s).1.1 ∧ Fit (rDay bs s).1.2.1 ∧ Fit (rDay bs s).1.2.2 := ⟨rNum_fit _ _, rNum_fit _ _, rNum_fit _ _⟩
end Go.Proofs.Ytndfhnaafaijcaa

/- A FLAT COMMAND IN A LAW's WALK: loads (guarded too), a new place, its box. -/
set_option linter.unusedVariables false
namespace Go.Proofs.Ytndfhnaafaijcaa
open Go.RowKit
open Mem Cm

theorem Cm.wplG_load {ops : Array Oper} {rest : List Oper} {o : Oper} {a : Act} {w : World} {Q : Exit → Act → World → Prop} {x : Operand} {g : Nat} {c : Cm.T} (ho : o.op = .load 37 x) (hw : Region.wanted o (yielded ops a.tmps) = true)
    (hx : a.eval x = .pointer (some ⟨g, 0, none⟩)) (hg : Cm.Blk w g c) (h : wpList Try.prog ops Q rest (a.put o.dst (Cm.val c)) w) : wpList Try.prog ops Q (o :: rest) a w := by
  show if _ then _ else _
  rw [if_pos hw]
  refine .inl ?_
  unfold Oper.wp execOp
  simp only [ho, hx, Sem.run_bind, Sem.run_pure, Result.andThen_ok, Cm.load_row w g (Cm.rv c).toArray 37 hg rfl]
  exact h
theorem Cm.wplB_new {ops : Array Oper} {rest : List Oper} {o : Oper} {a : Act} {w : World} {Q : Exit → Act → World → Prop} {x y : Operand} {old : Array Value} {g : Nat} {c : Cm.T} (ho : o.op = .store 37 x y) (hgd : o.guard = none)
    (hx : a.eval x = .pointer (some ⟨g, 0, none⟩)) (hg : g = w.heap.size) (hy : a.eval y = Cm.val c) (hold : old.size = 15)
    (h : wpList Try.prog ops Q rest (a.put o.dst undef) (w.alloc (.cells (Cm.rv c).toArray 37))) : wpList Try.prog ops Q (o :: rest) a (w.alloc (.cells old 37)) :=
  Cm.wpl_store (cs := (Cm.rv c).toArray) ho hgd hx hg hy rfl hold (by simp [Cm.rv, Value.oneCell']) h
/-- a flat command's own place, new -/
theorem Cm.boxB (w : World) (c : Cm.T) : ∃ W, w.alloc (.cells (Cm.rv c).toArray 37) = W ∧ Below w.heap.size w W ∧ Cm.Blk W w.heap.size c :=
  ⟨_, rfl, below_box (Below.refl _ _) _, heap_alloc_new w _⟩
theorem Cm.boxV (w : World) (c : Cm.T) : ∃ W, w.alloc (.cells #[.int .i64 c.kind, .string c.series, .int .i64 c.limit, .string c.cat, .int .i64 c.fy, .int .i64 c.fm, .int .i64 c.fd, .int .i64 c.bp, .int .i64 c.y, .int .i64 c.m, .int .i64 c.d, .slice c.ao c.n c.cap, .string c.ofs, .int .i64 c.ofn, .int .i64 c.session] 37) = W ∧ Below w.heap.size w W ∧ Cm.Blk W w.heap.size c := Cm.boxB w c
/-- a row laid over a block -/
theorem Cm.rowW {u : World} {g : Nat} {old : Cm.T} (h : Cm.Blk u g old) (c : Cm.T) : ∃ W, u.setRow g (Cm.rv c).toArray = W ∧ Cm.Blk W g c ∧ (∀ B w0, Below B w0 u → B ≤ g → Below B w0 W) :=
  ⟨_, rfl, h.row c, fun B w0 hb hg => below_setRow hb hg _⟩
end Go.Proofs.Ytndfhnaafaijcaa
