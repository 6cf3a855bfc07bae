/- MERGED: DayK, VatK, VSeg, TxtR, SignN, DateL, DateR, DateB. (By mg11.py.) -/
import Derived.Test.YthcaecinjmnlbabHa
import Derived.Laws.RangeAny
import Derived.Deep.RegionHeld3
/- DAYS AS THEY ARE HANDED OVER: what package date's contracts and those of the document's own answers share. -/
namespace Go.Proofs.Ythcaecinjmnlbab
open Go.RowKit

/-- a day as it is handed over -/
def dayV (y m d : Int) : Value := .agg #[.int .i64 y, .int .i64 m, .int .i64 d]
theorem right_len {y m d : Int} (h1 : 1 ≤ y) (h2 : y ≤ 9999) (h3 : 1 ≤ d) : Dt.rightB y m d = decide (d ≤ Dt.len y m) := by
  unfold Dt.rightB
  rw [Bool.eq_iff_iff, decide_eq_true_iff, decide_eq_true_iff]
  exact ⟨fun h => h.2.2.2, fun h => ⟨h1, h2, h3, h⟩⟩
theorem right_none {y m d : Int} (h : ¬ 1 ≤ y ∨ ¬ y ≤ 9999 ∨ ¬ 1 ≤ d) : Dt.rightB y m d = false := by
  rw [Bool.eq_false_iff]
  intro k
  rw [Dt.right_iff] at k
  omega
theorem below_box {w0 w : World} (h : Below w0.heap.size w0 w) (o : Obj) : Below w0.heap.size w0 (w.alloc o) := h.alloc h.size o
theorem bcell {W w1 : World} (hb : Below W.heap.size W w1) : (∀ b o, b < W.heap.size → w1.cell? ⟨b, o, none⟩ = W.cell? ⟨b, o, none⟩) ∧ (∀ b o, b < W.heap.size → w1.frozen? ⟨b, o, none⟩ = W.frozen? ⟨b, o, none⟩) :=
  ⟨fun b o h => hb.cell (p := ⟨b, o, none⟩) h, fun b o h => hb.frozen (p := ⟨b, o, none⟩) h⟩
def dayB (y m d : Int) (b : Bool) : Ending := .returned (.tuple #[dayV y m d, .bool b])
theorem days_first {y m : Int} (h1 : 1 ≤ y) (h2 : y ≤ 9999) (h3 : 1 ≤ m) (h4 : m ≤ 12) : Dt.days y m 1 = Dt.yd y + Dt.cum y m := by
  have h5 := Dt.len_lo (y := y) h3 h4
  rw [Dt.days_right (Dt.right_mk ⟨h1, h2, by omega, by omega⟩)]
  unfold Dt.num
  omega
/-- the world with the answer's own place -/
def boxW (w : World) : World := w.alloc (.cells #[.int .i64 0, .int .i64 0, .int .i64 0] 24)
theorem last_of {n y m : Int} (h1 : 1 ≤ y) (h2 : y ≤ 9999) (h3 : 1 ≤ m) (h4 : m ≤ 12) (h5 : Dt.yd y + Dt.cum y m ≤ n) (h6 : n < Dt.yd y + Dt.cum y (m + 1)) : Dt.rightB y m (1 + n - (Dt.yd y + Dt.cum y m)) = true ∧ Dt.num y m (1 + n - (Dt.yd y + Dt.cum y m)) = n := by
  have h7 := Dt.cum_succ y m h3 h4
  refine ⟨Dt.right_mk ⟨h1, h2, by omega, by omega⟩, ?_⟩
  unfold Dt.num
  omega
theorem below_set3 {w0 w w3 : World} (h0 : Below w0.heap.size w0 w) (h3 : Below (boxW w).heap.size (boxW w) w3) (a b c : Value) :
    Below w0.heap.size w0 (((w3.setCell ⟨w.heap.size, 0, none⟩ a).setCell ⟨w.heap.size, 1, none⟩ b).setCell ⟨w.heap.size, 2, none⟩ c) := by
  have h1 : Below w0.heap.size w0 w3 := (below_box h0 _).trans (h3.mono (below_box h0 _).size)
  exact ((h1.setCell h0.size _).setCell h0.size _).setCell h0.size _
def dayE (t : Int × Int × Int × Int) : Ending := .returned (.tuple #[dayV t.1 t.2.1 t.2.2.1, .int .i64 t.2.2.2])
theorem at_txt (s : ByteArray) (i : Nat) (h : i < s.size) : s[i] = (txt s)[i]'(by rw [txt_len]; exact h) := rfl
/-- digits, as a number -/
def pv (l : List UInt8) : Nat := l.foldl (fun x b => 10 * x + Dt.worth b) 0
theorem worth_le (b : UInt8) : Dt.worth b ≤ 207 := by
  have := b.toNat_lt
  unfold Dt.worth
  omega
theorem fold_le : ∀ (l : List UInt8) (x : Nat), 9 * l.foldl (fun x b => 10 * x + Dt.worth b) x + 207 ≤ (9 * x + 207) * 10 ^ l.length
  | [], x => by simp
  | b :: l, x => by
    have h := fold_le l (10 * x + Dt.worth b)
    have h1 := worth_le b
    have h2 : (9 * (10 * x + Dt.worth b) + 207) * 10 ^ l.length ≤ ((9 * x + 207) * 10) * 10 ^ l.length := Nat.mul_le_mul_right _ (by omega)
    rw [List.foldl_cons, List.length_cons, Nat.pow_succ, Nat.mul_comm (10 ^ l.length) 10, ← Nat.mul_assoc]
    omega
theorem pv_le (l : List UInt8) (h : l.length ≤ 4) : pv l ≤ 300000 := by
  have h1 := fold_le l 0
  have h2 : 10 ^ l.length ≤ 10 ^ 4 := Nat.pow_le_pow_right (by omega) h
  unfold pv
  omega
theorem pv_step (l : List UInt8) (b : UInt8) (h : 48 ≤ b.toNat) : (pv l : Int) * 10 + ((b.toNat : Int) - 48) = (pv (l ++ [b]) : Int) := by
  have e : pv (l ++ [b]) = 10 * pv l + Dt.worth b := by
    unfold pv
    rw [List.foldl_append]
    rfl
  rw [e]
  unfold Dt.worth
  omega
theorem bad_told {a b c d f g i j : UInt8} (h : (Dt.isDig a && Dt.isDig b && Dt.isDig c && Dt.isDig d && Dt.isDig f && Dt.isDig g && Dt.isDig i && Dt.isDig j) = false) : dayE (Dt.told [a, b, c, d, 45, f, g, 45, i, j]) = dayE (0, 0, 0, 4) := by
  rw [Dt.told_none]
  rw [Dt.parse_ten, if_neg]
  intro k
  simp only [beq_self_eq_true, Bool.and_true] at k
  rw [k] at h
  cases h
theorem good_parse {a b c d f g i j : UInt8} (h : ([a, b, c, d].take 10 ++ [f, g].take (10 - 5) ++ [i, j].take (10 - 8)).all Dt.isDig = true) : Dt.parse [a, b, c, d, 45, f, g, 45, i, j] = some (pv [a, b, c, d], pv [f, g], pv [i, j]) := by
  simp only [List.take, List.cons_append, List.nil_append, List.all_cons, List.all_nil, Bool.and_true, Bool.and_eq_true] at h
  rw [Dt.parse_ten, if_pos (by simp [h])]
  simp only [pv, List.foldl, Option.some.injEq, Prod.mk.injEq]
  refine ⟨?_, ?_, ?_⟩ <;> omega
theorem told_len {l : List UInt8} (h : l.length ≠ 10) : Dt.told l = (0, 0, 0, 4) := Dt.told_none (Dt.parse_len h)
theorem told_dash {a b c d e f g h i j : UInt8} (hn : e ≠ 45 ∨ h ≠ 45) : Dt.told [a, b, c, d, e, f, g, h, i, j] = (0, 0, 0, 4) := by
  apply Dt.told_none
  rw [Dt.parse_ten, if_neg]
  intro k
  simp only [Bool.and_eq_true, beq_iff_eq] at k
  rcases hn with hn | hn
  · exact hn k.1.1.1.1.1.2
  · exact hn k.1.1.2
theorem ne_45 {e : UInt8} (h : e ≠ 45) : ((e.toNat : Int) != 45) = true := bne_iff_ne.2 fun k => h (UInt8.toNat_inj.1 (by
  have : (45 : UInt8).toNat = 45 := rfl
  omega))
theorem size45 : (ByteArray.mk #[45]).size = 1 := rfl
end Go.Proofs.Ythcaecinjmnlbab

/- ROWS OF RATES AS THEY ARE HANDED OVER: what package vat's contracts and those of the document's own answers share. -/
namespace Go.Proofs.Ythcaecinjmnlbab
open Go.RowKit
open Vt (Rt)

/-- a row as it is handed over -/
def rowV (r : Rt) : Value := .agg #[.string r.cat, .int .i64 r.y, .int .i64 r.m, .int .i64 r.d, .int .i64 r.bp]
/-- its numbers are numbers of 64 bits, its text is not too long for any memory -/
def Short (r : Rt) : Prop := r.cat.size ≤ 140737488355328 ∧ Fit r.y ∧ Fit r.m ∧ Fit r.d ∧ Fit r.bp
/-- a row's own place -/
def boxR (w : World) (r : Rt) : World := w.alloc (.cells #[.string r.cat, .int .i64 r.y, .int .i64 r.m, .int .i64 r.d, .int .i64 r.bp] 45)
theorem cell_lt {u : World} {b o : Nat} {v : Value} (h : u.cell? ⟨b, o, none⟩ = some v) : b < u.heap.size := by
  by_cases k : b < u.heap.size
  · exact k
  · exfalso
    simp [World.cell?, Array.getElem?_eq_none (Nat.le_of_not_lt k)] at h
/-- a row lies in a block of its own -/
def RowC (u : World) (b : Nat) (r : Rt) : Prop :=
  u.cell? ⟨b, 0, none⟩ = some (.string r.cat) ∧ u.cell? ⟨b, 1, none⟩ = some (.int .i64 r.y) ∧ u.cell? ⟨b, 2, none⟩ = some (.int .i64 r.m) ∧ u.cell? ⟨b, 3, none⟩ = some (.int .i64 r.d) ∧ u.cell? ⟨b, 4, none⟩ = some (.int .i64 r.bp)
theorem RowC.below {u v : World} {b : Nat} {r : Rt} (h : RowC u b r) (k : Below u.heap.size u v) : RowC v b r := by
  obtain ⟨h0, h1, h2, h3, h4⟩ := h
  have hl := cell_lt h0
  unfold RowC
  rw [(bcell k).1 _ _ hl, (bcell k).1 _ _ hl, (bcell k).1 _ _ hl, (bcell k).1 _ _ hl, (bcell k).1 _ _ hl]
  exact ⟨h0, h1, h2, h3, h4⟩
theorem rowC_box (w : World) (r : Rt) : RowC (boxR w r) w.heap.size r := by
  unfold boxR RowC
  simp [go_sem]
theorem boxR_size (w : World) (r : Rt) : (boxR w r).heap.size = w.heap.size + 1 := by
  unfold boxR
  simp
theorem below_boxR (w : World) (r : Rt) : Below w.heap.size w (boxR w r) := (Below.refl _ _).alloc (Nat.le_refl _) _
theorem boxed1 (w : World) (a : Rt) : ∃ W, w.alloc (.cells #[.string a.cat, .int .i64 a.y, .int .i64 a.m, .int .i64 a.d, .int .i64 a.bp] 45) = W ∧ Below w.heap.size w W ∧ RowC W w.heap.size a :=
  ⟨_, rfl, below_boxR w a, rowC_box w a⟩
theorem boxed2 (w : World) (a b : Rt) : ∃ W, (w.alloc (.cells #[.string a.cat, .int .i64 a.y, .int .i64 a.m, .int .i64 a.d, .int .i64 a.bp] 45)).alloc (.cells #[.string b.cat, .int .i64 b.y, .int .i64 b.m, .int .i64 b.d, .int .i64 b.bp] 45) = W ∧
    Below w.heap.size w W ∧ RowC W w.heap.size a ∧ RowC W (w.heap.size + 1) b := by
  refine ⟨_, rfl, ((below_boxR w a).trans ((below_boxR (boxR w a) b).mono (below_boxR w a).size)), (rowC_box w a).below (below_boxR _ b), ?_⟩
  have h := rowC_box (boxR w a) b
  rw [boxR_size] at h
  exact h
/-- a day lies in a block of its own -/
def DayC (u : World) (b : Nat) (y m d : Int) : Prop :=
  u.cell? ⟨b, 0, none⟩ = some (.int .i64 y) ∧ u.cell? ⟨b, 1, none⟩ = some (.int .i64 m) ∧ u.cell? ⟨b, 2, none⟩ = some (.int .i64 d)
theorem DayC.below {u v : World} {b : Nat} {y m d : Int} (h : DayC u b y m d) (k : Below u.heap.size u v) : DayC v b y m d := by
  obtain ⟨h0, h1, h2⟩ := h
  have hl := cell_lt h0
  unfold DayC
  rw [(bcell k).1 _ _ hl, (bcell k).1 _ _ hl, (bcell k).1 _ _ hl]
  exact ⟨h0, h1, h2⟩
theorem dayC_box (w : World) (y m d : Int) : DayC (w.alloc (.cells #[.int .i64 y, .int .i64 m, .int .i64 d] 24)) w.heap.size y m d := by
  unfold DayC
  simp [go_sem]
theorem boxedRD (w : World) (a : Rt) (y m d : Int) : ∃ W, (w.alloc (.cells #[.string a.cat, .int .i64 a.y, .int .i64 a.m, .int .i64 a.d, .int .i64 a.bp] 45)).alloc (.cells #[.int .i64 y, .int .i64 m, .int .i64 d] 24) = W ∧
    Below w.heap.size w W ∧ RowC W w.heap.size a ∧ DayC W (w.heap.size + 1) y m d := by
  refine ⟨_, rfl, ((below_boxR w a).alloc (below_boxR w a).size _), (rowC_box w a).below ((Below.refl _ _).alloc (Nat.le_refl _) _), ?_⟩
  have h := dayC_box (boxR w a) y m d
  rw [boxR_size] at h
  exact h
theorem bchain {w0 u v : World} (h : Below w0.heap.size w0 u) (k : Below u.heap.size u v) : Below w0.heap.size w0 v := h.trans (k.mono h.size)
end Go.Proofs.Ythcaecinjmnlbab

/- ROWS OF RATES THAT LIE ONE BEHIND THE OTHER. -/
namespace Go.Proofs.Ythcaecinjmnlbab
open Go.RowKit
open Vt (Rt)

/-- a row lies at a place of a block -/
structure RowAt (u : World) (b o : Nat) (r : Rt) : Prop where
  c0 : u.cell? ⟨b, o, none⟩ = some (.string r.cat)
  c1 : u.cell? ⟨b, o + 1, none⟩ = some (.int .i64 r.y)
  c2 : u.cell? ⟨b, o + 2, none⟩ = some (.int .i64 r.m)
  c3 : u.cell? ⟨b, o + 3, none⟩ = some (.int .i64 r.d)
  c4 : u.cell? ⟨b, o + 4, none⟩ = some (.int .i64 r.bp)
theorem RowAt.below {u v : World} {b o : Nat} {r : Rt} (h : RowAt u b o r) (k : Below u.heap.size u v) : RowAt v b o r := by
  have hl := cell_lt h.c0
  exact ⟨by rw [(bcell k).1 _ _ hl]; exact h.c0, by rw [(bcell k).1 _ _ hl]; exact h.c1, by rw [(bcell k).1 _ _ hl]; exact h.c2, by rw [(bcell k).1 _ _ hl]; exact h.c3, by rw [(bcell k).1 _ _ hl]; exact h.c4⟩
/-- rows lie at an address -/
def SegR (w : World) (ao : Option Addr) (rs : List Rt) : Prop := rs = [] ∨ ∃ b off, ao = some ⟨b, off, none⟩ ∧ ∀ (k : Nat) (hk : k < rs.length), RowAt w b (off + k * 5) rs[k]
theorem SegR.below {w v : World} {ao : Option Addr} {rs : List Rt} (h : SegR w ao rs) (k : Below w.heap.size w v) : SegR v ao rs := by
  rcases h with h | ⟨b, off, e, h⟩
  · exact .inl h
  · exact .inr ⟨b, off, e, fun i hi => (h i hi).below k⟩
/-- a slice of rows, as a contract takes it -/
structure Rts (w : World) (ao : Option Addr) (n cap : Nat) (rs : List Rt) : Prop where
  len : n = rs.length
  fits : n ≤ cap
  reach : cap ≤ 9223372036854775807
  nil : ao = none → cap = 0
  seg : SegR w ao rs
  short : ∀ r ∈ rs, Short r
theorem Rts.below {w v : World} {ao : Option Addr} {n cap : Nat} {rs : List Rt} (h : Rts w ao n cap rs) (k : Below w.heap.size w v) : Rts v ao n cap rs :=
  ⟨h.len, h.fits, h.reach, h.nil, h.seg.below k, h.short⟩
theorem Rts.at {w : World} {ao : Option Addr} {n cap : Nat} {rs : List Rt} (h : Rts w ao n cap rs) (hn : 0 < n) : ∃ b off, ao = some ⟨b, off, none⟩ := by
  rcases h.seg with e | ⟨b, off, e, _⟩
  · have := h.len
    rw [e] at this
    simp at this
    omega
  · exact ⟨b, off, e⟩
theorem Rts.row {w : World} {b off n cap : Nat} {rs : List Rt} (h : Rts w (some ⟨b, off, none⟩) n cap rs) (k : Nat) (hk : k < rs.length) : RowAt w b (off + k * 5) rs[k] := by
  rcases h.seg with e | ⟨b', off', e, hs⟩
  · subst e
    simp at hk
  · cases e
    exact hs k hk
end Go.Proofs.Ythcaecinjmnlbab

/- A TEXT AT A PLACE, by its runes. -/
namespace Go.Proofs.Ythcaecinjmnlbab
open Go.RowKit

theorem drop_ne (s : ByteArray) (pos : Nat) (h : pos < s.size) : (txt s).drop pos ≠ [] := by
  intro e
  have := congrArg List.length e
  rw [List.length_drop, txt_len, List.length_nil] at this
  omega
theorem drop_end (s : ByteArray) (pos : Nat) (h : ¬ pos < s.size) : (txt s).drop pos = [] :=
  List.drop_eq_nil_of_le (by rw [txt_len]; omega)
theorem dec_at (s : ByteArray) (pos : Nat) : Lib.decodeL ((txt s).drop pos) = Utf8.decode s pos := Lib.decodeL_drop s pos
theorem dec_pos (s : ByteArray) (pos : Nat) : 1 ≤ (Utf8.decode s pos).2 := Lib.width_pos s pos
theorem dec_le (s : ByteArray) (pos : Nat) (h : pos < s.size) : pos + (Utf8.decode s pos).2 ≤ s.size := by
  have := Rn.dle _ (drop_ne s pos h)
  rw [dec_at, List.length_drop, txt_len] at this
  omega
theorem dec_max (s : ByteArray) (pos : Nat) : (Utf8.decode s pos).1 ≤ 1114111 := Lib.rune_le s pos
theorem runes_at (s : ByteArray) (pos : Nat) (h : pos < s.size) : Rn.runes ((txt s).drop pos) = (Utf8.decode s pos).1 :: Rn.runes ((txt s).drop (pos + (Utf8.decode s pos).2)) := by
  rw [Rn.runes_step _ (drop_ne s pos h), dec_at, List.drop_drop]
theorem runes_end (s : ByteArray) (pos : Nat) (h : ¬ pos < s.size) : Rn.runes ((txt s).drop pos) = [] := by rw [drop_end s pos h]; rfl
theorem below_iter (w : World) (s : ByteArray) (pos : Nat) : Below w.heap.size w (w.iter s pos) := (Below.refl _ _).alloc (Nat.le_refl _) _
theorem name_long (s : ByteArray) (h : s.toList = [] ∨ 24 < s.size) : Rn.name (txt s) = false := by
  unfold Rn.name
  rcases h with h | h
  · rw [← tl, h]; rfl
  · rw [show decide ((txt s).length ≤ 24) = false from decide_eq_false (by rw [txt_len]; omega)]
    simp
theorem name_short (s : ByteArray) (h : s.toList ≠ []) (h2 : s.size ≤ 24) : Rn.name (txt s) = Rn.nameOk true (Rn.runes (txt s)) := by
  unfold Rn.name
  rw [show decide ((txt s).length ≤ 24) = true from decide_eq_true (by rw [txt_len]; omega)]
  rw [tl] at h
  cases e : txt s with
  | nil => exact absurd e h
  | cons _ _ => rfl
end Go.Proofs.Ythcaecinjmnlbab

/- CONTRACTS OF PACKAGE sign: within, digit, inner, Letter, Name: any text, UTF-8 or not. -/
namespace Go.Proofs.Ythcaecinjmnlbab
open Go.RowKit

theorem within_any (r a b : Int) (w : World) :
    Calls Try.prog 47 #[.int .i32 r, .int .i32 a, .int .i32 b] w fun e w' => e = .returned (.bool (decide (a ≤ r ∧ r ≤ b))) ∧ w' = w := by
  go_enter Try.func47, Try.ntmps47
  by_cases h1 : a ≤ r
  · go_wp2
    go_ret
    exact ⟨ret_bool (by simp [h1]), rfl⟩
  · go_wp2
    go_ret
    refine ⟨ret_bool ?_, rfl⟩
    rw [Bool.eq_iff_iff]
    simp
    omega
theorem digit_any (r : Int) (w : World) :
    Calls Try.prog 48 #[.int .i32 r] w fun e w' => e = .returned (.bool (Rn.digit r)) ∧ w' = w := by
  go_enter Try.func48, Try.ntmps48
  go_wp2_with fail
  refine (within_any _ _ _ _).mono ?_
  rintro e _ ⟨rfl, rfl⟩
  go_wp2
  go_ret
  exact ⟨ret_bool (by simp [Rn.digit]), rfl⟩
theorem inner_any (r : Int) (w : World) :
    Calls Try.prog 39 #[.int .i32 r] w fun e w' => e = .returned (.bool (Rn.inner r)) ∧ w' = w := by
  go_enter Try.func39, Try.ntmps39
  go_wp2_with fail
  refine (digit_any _ _).mono ?_
  rintro e _ ⟨rfl, rfl⟩
  cases hd : Rn.digit r
  · by_cases h1 : r = 45
    · subst h1
      go_wp2
      go_ret
      exact ⟨rfl, rfl⟩
    · by_cases h2 : r = 95
      · subst h2
        go_wp2
        go_ret
        exact ⟨rfl, rfl⟩
      · go_wp2
        go_ret
        refine ⟨ret_bool ?_, rfl⟩
        rw [Bool.eq_iff_iff]
        simp [Rn.inner, hd, h1, h2]
  · go_wp2
    go_ret
    exact ⟨ret_bool (by simp [Rn.inner, hd]), rfl⟩
theorem letter_any (r : Int) (w : World) :
    Calls Try.prog 38 #[.int .i32 r] w fun e w' => e = .returned (.bool (Rn.letter r)) ∧ w' = w := by
  go_enter Try.func38, Try.ntmps38
  go_wp2_with fail
  refine (within_any _ _ _ _).mono ?_
  rintro e _ ⟨rfl, rfl⟩
  by_cases h1 : 97 ≤ r ∧ r ≤ 122
  · rw [show decide (97 ≤ r ∧ r ≤ 122) = true from decide_eq_true h1]
    go_wp2
    go_ret
    exact ⟨ret_bool (by simp [Rn.letter, h1]), rfl⟩
  · rw [show decide (97 ≤ r ∧ r ≤ 122) = false from decide_eq_false h1]
    go_wp2_with fail
    refine (within_any _ _ _ _).mono ?_
    rintro e _ ⟨rfl, rfl⟩
    by_cases h2 : 65 ≤ r ∧ r ≤ 90
    · rw [show decide (65 ≤ r ∧ r ≤ 90) = true from decide_eq_true h2]
      go_wp2
      go_ret
      exact ⟨ret_bool (by simp [Rn.letter, h2]), rfl⟩
    · rw [show decide (65 ≤ r ∧ r ≤ 90) = false from decide_eq_false h2]
      go_wp2_with fail
      refine (within_any _ _ _ _).mono ?_
      rintro e _ ⟨rfl, rfl⟩
      by_cases h3 : 192 ≤ r ∧ r ≤ 591
      · rw [show decide (192 ≤ r ∧ r ≤ 591) = true from decide_eq_true h3]
        by_cases h4 : r = 215
        · subst h4
          go_wp2
          go_ret
          exact ⟨rfl, rfl⟩
        · go_wp2
          go_ret
          refine ⟨ret_bool ?_, rfl⟩
          rw [Bool.eq_iff_iff]
          simp [Rn.letter]
          omega
      · rw [show decide (192 ≤ r ∧ r ≤ 591) = false from decide_eq_false h3]
        go_wp2
        go_ret
        refine ⟨ret_bool ?_, rfl⟩
        symm
        simp only [Rn.letter, Bool.or_eq_false_iff, decide_eq_false_iff_not]
        omega
set_option maxHeartbeats 1000000 in
theorem name_any (s : ByteArray) (w : World) (hs : s.size ≤ 140737488355328) :
    Calls Try.prog 26 #[.string s] w fun e w' => e = .returned (.bool (Rn.name (txt s))) ∧ Below w.heap.size w w' := by
  by_cases hn : s.toList = []
  · have HN : Hid (Rn.name (txt s) = false) := name_long s (.inl hn)
    go_enter Try.func26, Try.ntmps26
    go_wp2
    go_ret
    exact ⟨ret_bool HN.out.symm, Below.refl _ _⟩
  have hn2 : s.toList.isEmpty = false := by cases e : s.toList with | nil => exact absurd e hn | cons _ _ => rfl
  by_cases h24 : 24 < s.size
  · have HN : Hid (Rn.name (txt s) = false) := name_long s (.inr h24)
    go_enter Try.func26, Try.ntmps26
    go_wp2
    go_ret
    exact ⟨ret_bool HN.out.symm, Below.refl _ _⟩
  have HN : Hid (Rn.name (txt s) = Rn.nameOk true (Rn.runes (txt s))) := name_short s hn (by omega)
  go_enter Try.func26, Try.ntmps26
  go_wp2
  clear hn hn2
  go_loopw [3, 4] (fun _ _ w' => ∃ (pos : Nat), w' = w.iter s pos ∧ Hid (Rn.nameOk (decide (pos = 0)) (Rn.runes ((txt s).drop pos)) = Rn.nameOk true (Rn.runes (txt s))) ∧ pos ≤ s.size) (fun _ _ w' => s.size - w'.iterPos w.heap.size)
  case atStart => exact ⟨0, rfl, by show _ = _; simp, by omega⟩
  case round =>
    obtain ⟨pos, rfl, HC, hb⟩ := hrel
    by_cases hp : pos < s.size
    · have hnx : ∀ ty, (Instr.next (.pointer (some ⟨w.heap.size, 0, none⟩)) true ty).run Try.prog (w.iter s pos) = _ := fun ty => run_next_any w s pos ty hp
      have hwd := dec_pos s pos
      have hle := dec_le s pos hp
      have HS : Hid (Rn.nameOk (decide (pos = 0)) (Rn.runes ((txt s).drop pos)) = ((Rn.letter ((Utf8.decode s pos).1 : Int) || (!decide (pos = 0) && Rn.inner ((Utf8.decode s pos).1 : Int))) && Rn.nameOk (decide (pos + (Utf8.decode s pos).2 = 0)) (Rn.runes ((txt s).drop (pos + (Utf8.decode s pos).2))))) := by
        show _ = _
        rw [runes_at s pos hp, Rn.nameOk, show decide (pos + (Utf8.decode s pos).2 = 0) = false from decide_eq_false (by omega)]
      go_wp2_with fail
      refine (letter_any _ _).mono ?_
      rintro e _ ⟨rfl, rfl⟩
      cases hL : Rn.letter ((Utf8.decode s pos).1 : Int)
      · by_cases h0 : pos = 0
        · go_wp2
          go_ret
          refine ⟨ret_bool ?_, below_iter w s _⟩
          rw [HN.out, ← HC.out, HS.out, hL]
          simp [h0]
        · go_wp2_with fail
          refine (inner_any _ _).mono ?_
          rintro e _ ⟨rfl, rfl⟩
          cases hI : Rn.inner ((Utf8.decode s pos).1 : Int)
          · go_wp2
            go_ret
            refine ⟨ret_bool ?_, below_iter w s _⟩
            rw [HN.out, ← HC.out, HS.out, hL, hI]
            simp
          · go_wp2
            go_roundw
            case rel =>
              refine ⟨pos + (Utf8.decode s pos).2, rfl, ?_, by omega⟩
              show _ = _
              rw [← HC.out, HS.out, hL, hI]
              simp [h0]
            case measure =>
              simp
              omega
      · go_wp2
        go_roundw
        case rel =>
          refine ⟨pos + (Utf8.decode s pos).2, rfl, ?_, by omega⟩
          show _ = _
          rw [← HC.out, HS.out, hL]
          simp
        case measure =>
          simp
          omega
    · have hnx : ∀ ty, (Instr.next (.pointer (some ⟨w.heap.size, 0, none⟩)) true ty).run Try.prog (w.iter s pos) = _ := fun ty => run_next_end w s pos ty hp
      go_wp2
      go_ret
      refine ⟨ret_bool ?_, below_iter w s pos⟩
      rw [HN.out, ← HC.out, runes_end s pos hp]
      rfl
theorem name_gen (s : ByteArray) (w0 w : World) (hb : Below w0.heap.size w0 w) (hs : s.size ≤ 140737488355328) :
    Calls Try.prog 26 #[.string s] w fun e w' => e = .returned (.bool (Rn.name (txt s))) ∧ Below w0.heap.size w0 w' :=
  (name_any s w hs).mono fun _ _ ⟨h1, h2⟩ => ⟨h1, hb.trans (h2.mono hb.size)⟩
end Go.Proofs.Ythcaecinjmnlbab

/- CONTRACTS OF PACKAGE date: leap, length, within. -/
namespace Go.Proofs.Ythcaecinjmnlbab
open Go.RowKit

theorem leap_date (y : Int) (w : World) (h0 : 0 ≤ y) (h1 : y ≤ 10000) :
    Calls Try.prog 46 #[.int .i64 y] w fun e w' => e = .returned (.bool (Dt.leapB y)) ∧ w' = w := by
  go_enter Try.func46, Try.ntmps46
  by_cases a1 : y % 4 = 0
  · by_cases a2 : y % 100 = 0
    · have a3 : (y % 100 != 0) = false := by rw [a2]; rfl
      go_wp2
      go_ret
      refine ⟨ret_bool ?_, rfl⟩
      rw [Bool.eq_iff_iff, Dt.leap_iff, beq_iff_eq]
      omega
    · have a3 : (y % 100 != 0) = true := bne_iff_ne.2 a2
      go_wp2
      go_ret
      exact ⟨ret_bool ((Dt.leap_iff y).2 ⟨a1, .inl a2⟩).symm, rfl⟩
  · have a2 : (y % 4 == 0) = false := beq_eq_false_iff_ne.2 a1
    go_wp2
    go_ret
    refine ⟨ret_bool ?_, rfl⟩
    rw [Bool.eq_iff_iff, Dt.leap_iff, beq_iff_eq]
    omega
theorem length_date (y m : Int) (w : World) (h0 : 0 ≤ y) (h1 : y ≤ 10000) :
    Calls Try.prog 37 #[.int .i64 y, .int .i64 m] w fun e w' => e = .returned (.int .i64 (Dt.len y m)) ∧ w' = w := by
  by_cases h : m < 1 ∨ 12 < m
  · have HL := Lib.hid (Dt.len_0 (y := y) h)
    have e1 : (m == 1) = false := beq_eq_false_iff_ne.2 (by omega)
    have e2 : (m == 2) = false := beq_eq_false_iff_ne.2 (by omega)
    have e3 : (m == 3) = false := beq_eq_false_iff_ne.2 (by omega)
    have e4 : (m == 4) = false := beq_eq_false_iff_ne.2 (by omega)
    have e5 : (m == 5) = false := beq_eq_false_iff_ne.2 (by omega)
    have e6 : (m == 6) = false := beq_eq_false_iff_ne.2 (by omega)
    have e7 : (m == 7) = false := beq_eq_false_iff_ne.2 (by omega)
    have e8 : (m == 8) = false := beq_eq_false_iff_ne.2 (by omega)
    have e9 : (m == 9) = false := beq_eq_false_iff_ne.2 (by omega)
    have e10 : (m == 10) = false := beq_eq_false_iff_ne.2 (by omega)
    have e11 : (m == 11) = false := beq_eq_false_iff_ne.2 (by omega)
    have e12 : (m == 12) = false := beq_eq_false_iff_ne.2 (by omega)
    clear h
    go_enter Try.func37, Try.ntmps37
    go_wp2_with fail
    go_ret
    exact ⟨ret_int HL.out.symm, rfl⟩
  · have hm : m = 1 ∨ m = 2 ∨ m = 3 ∨ m = 4 ∨ m = 5 ∨ m = 6 ∨ m = 7 ∨ m = 8 ∨ m = 9 ∨ m = 10 ∨ m = 11 ∨ m = 12 := by omega
    clear h
    by_cases h2 : m = 2
    · subst h2
      clear hm
      by_cases hl : Dt.leapB y = true
      · have HL : Hid (Dt.len y 2 = 29) := Lib.hid (by rw [Dt.len_2, Dt.lp_true hl]; rfl)
        go_enter Try.func37, Try.ntmps37
        go_wp2_with fail
        refine (leap_date y _ h0 h1).mono ?_
        rintro e w1 ⟨rfl, hw1⟩
        subst hw1
        rw [hl]
        go_wp2_with fail
        go_ret
        exact ⟨ret_int HL.out.symm, rfl⟩
      · have hl' : Dt.leapB y = false := by simpa using hl
        have HL : Hid (Dt.len y 2 = 28) := Lib.hid (by rw [Dt.len_2, Dt.lp_false hl']; rfl)
        clear hl
        go_enter Try.func37, Try.ntmps37
        go_wp2_with fail
        refine (leap_date y _ h0 h1).mono ?_
        rintro e w1 ⟨rfl, hw1⟩
        subst hw1
        rw [hl']
        go_wp2_with fail
        go_ret
        exact ⟨ret_int HL.out.symm, rfl⟩
    · by_cases h3 : m = 4 ∨ m = 6 ∨ m = 9 ∨ m = 11
      · have HL := Lib.hid (Dt.len_30 (y := y) h3)
        clear hm h2
        rcases h3 with rfl | rfl | rfl | rfl
        all_goals
          go_enter Try.func37, Try.ntmps37
          go_wp2_with fail
          go_ret
          exact ⟨ret_int HL.out.symm, rfl⟩
      · have h4 : m = 1 ∨ m = 3 ∨ m = 5 ∨ m = 7 ∨ m = 8 ∨ m = 10 ∨ m = 12 := by omega
        have HL := Lib.hid (Dt.len_31 (y := y) h4)
        clear hm h2 h3
        rcases h4 with rfl | rfl | rfl | rfl | rfl | rfl | rfl
        all_goals
          go_enter Try.func37, Try.ntmps37
          go_wp2_with fail
          go_ret
          exact ⟨ret_int HL.out.symm, rfl⟩
theorem within_date (n a b : Int) (w : World) :
    Calls Try.prog 36 #[.int .i64 n, .int .i64 a, .int .i64 b] w fun e w' => e = .returned (.bool (decide (a ≤ n ∧ n ≤ b))) ∧ w' = w := by
  go_enter Try.func36, Try.ntmps36
  by_cases h1 : a ≤ n
  · go_wp2
    go_ret
    exact ⟨ret_bool (by simp [h1]), rfl⟩
  · go_wp2
    go_ret
    refine ⟨ret_bool ?_, rfl⟩
    rw [Bool.eq_iff_iff]
    simp
    omega
end Go.Proofs.Ythcaecinjmnlbab

/- CONTRACTS OF PACKAGE date: Right, ahead, Days. -/
namespace Go.Proofs.Ythcaecinjmnlbab
open Go.RowKit

theorem right_years {y m d : Int} (h : 1 ≤ y ∧ y ≤ 9999) : Dt.rightB y m d = decide (1 ≤ d ∧ d ≤ Dt.len y m) := by
  unfold Dt.rightB
  rw [Bool.eq_iff_iff, decide_eq_true_iff, decide_eq_true_iff]
  exact ⟨fun k => k.2.2, fun k => ⟨h.1, h.2, k⟩⟩
theorem right_noyear {y m d : Int} (h : ¬ (1 ≤ y ∧ y ≤ 9999)) : Dt.rightB y m d = false := by
  rw [Bool.eq_false_iff]
  intro k
  rw [Dt.right_iff] at k
  omega
set_option maxHeartbeats 1000000 in
theorem right_date (y m d : Int) (w0 w : World) (hw : Below w0.heap.size w0 w) (_hy : Fit y) (_hm : Fit m) (_hd : Fit d) :
    Calls Try.prog 25 #[dayV y m d] w fun e w' => e = .returned (.bool (Dt.rightB y m d)) ∧ Below w0.heap.size w0 w' := by
  have HW := Lib.hid hw
  clear hw
  unfold dayV
  by_cases h1 : 1 ≤ y ∧ y ≤ 9999
  · have HR := Lib.hid (right_years (m := m) (d := d) h1)
    have hd1 : decide (1 ≤ y ∧ y ≤ 9999) = true := decide_eq_true h1
    go_enter Try.func25, Try.ntmps25
    go_wp2
    go_quiet (first | (go_at_call 37; exact Calls.quiet_of_same (length_date _ _ _ (by omega) (by omega))) | (go_at_call 36; exact Calls.quiet_of_same (within_date _ _ _ _)))
    go_wp2
    go_ret
    exact ⟨ret_bool (by rw [HR.out, Bool.decide_and]), below_drewN (below_box HW.out _) _⟩
  · have HR := Lib.hid (right_noyear (m := m) (d := d) h1)
    have hd1 : decide (1 ≤ y ∧ y ≤ 9999) = false := decide_eq_false h1
    go_enter Try.func25, Try.ntmps25
    go_wp2
    go_quiet (first | (go_at_call 37; exact Calls.quiet_of_same (length_date _ _ _ (by omega) (by omega))) | (go_at_call 36; exact Calls.quiet_of_same (within_date _ _ _ _)))
    go_wp2
    go_ret
    exact ⟨ret_bool HR.out.symm, below_drewN (below_box HW.out _) _⟩
theorem ahead_date (y : Int) (w : World) (h0 : 1 ≤ y) (h1 : y ≤ 10000) :
    Calls Try.prog 52 #[.int .i64 y] w fun e w' => e = .returned (.int .i64 (Dt.yd y)) ∧ w' = w := by
  have HY : Hid (Dt.yd y = (y - 1) * 365 + (y - 1) / 4 - (y - 1) / 100 + (y - 1) / 400) := Lib.hid (by unfold Dt.yd; omega)
  go_enter Try.func52, Try.ntmps52
  go_wp2
  go_ret
  exact ⟨ret_int HY.out.symm, rfl⟩
set_option maxHeartbeats 1000000 in
theorem days_date (y m d : Int) (w0 w : World) (hw : Below w0.heap.size w0 w) (hy : Fit y) (hm : Fit m) (hd : Fit d) :
    Calls Try.prog 49 #[dayV y m d] w fun e w' => e = .returned (.int .i64 (Dt.days y m d)) ∧ Below w0.heap.size w0 w' := by
  have HW := Lib.hid hw
  clear hw
  by_cases h : Dt.rightB y m d = true
  · rw [Dt.days_right h]
    obtain ⟨h1, h2, h3, h4, h5, h6⟩ := Dt.right_bd h
    have hn := Lib.hid (Dt.num_bd h)
    obtain ⟨hy0, hy1⟩ := Dt.yd_bd h1 (show y ≤ 10000 by omega)
    unfold dayV
    go_enter Try.func49, Try.ntmps49
    go_wp2_with fail
    refine (right_date y m d _ _ (Below.refl _ _) hy hm hd).mono ?_
    rintro e w1 ⟨rfl, b1⟩
    have HB1 := Lib.hid ((below_box HW.out _).trans (b1.mono (below_box HW.out _).size))
    obtain ⟨hc, hf⟩ := bcell b1
    clear b1 hy hm hd
    rw [h]
    go_wp2
    go_quiet ((go_at_call 52; exact Calls.quiet_of_same (ahead_date _ _ (by omega) (by omega))))
    go_wp2
    go_loop [3, 4] (fun n i => ∃ k : Int, 1 ≤ k ∧ k ≤ m ∧ i = .int .i64 k ∧ n = .int .i64 (Dt.yd y + d - 1 + Dt.cum y k)) (fun _ i => (m - intOf i).toNat)
    case atStart => exact ⟨1, by omega, h3, rfl, by rw [Dt.cum_1, Int.add_zero]⟩
    case round =>
      obtain ⟨k, hk0, hk1, rfl, rfl⟩ := hrel
      have hcb := Dt.cum_bd (y := y) hk0 (show k ≤ 13 by omega)
      by_cases hlt : k < m
      · have hlb := Dt.len_bd y k
        have HS := Lib.hid (Dt.cum_succ y k hk0 (by omega))
        go_wp2_with fail
        refine (length_date y k _ (by omega) (by omega)).mono ?_
        rintro e w2 ⟨rfl, hw2⟩
        subst hw2
        go_wp2
        go_round
        case rel => exact ⟨k + 1, by omega, by omega, rfl, by rw [HS.out, ← Int.add_assoc]⟩
        case measure => simp [intOf]; omega
      · obtain rfl : k = m := by omega
        go_wp2
        go_ret
        exact ⟨ret_int (by unfold Dt.num; omega), below_drewN HB1.out _⟩
  · have h' : Dt.rightB y m d = false := by simpa using h
    rw [Dt.days_not h']
    unfold dayV
    go_enter Try.func49, Try.ntmps49
    go_wp2_with fail
    refine (right_date y m d w0 _ (below_box HW.out _) hy hm hd).mono ?_
    rintro e w1 ⟨rfl, b1⟩
    have HB1 := Lib.hid b1
    clear b1
    rw [h']
    go_wp2
    go_ret
    exact ⟨rfl, HB1.out⟩
end Go.Proofs.Ythcaecinjmnlbab

/- CONTRACTS OF PACKAGE date: Before. -/
namespace Go.Proofs.Ythcaecinjmnlbab
open Go.RowKit

/-- are both right, and is the first ahead? -/
def aheadB (y m d z n e : Int) : Bool := Dt.rightB y m d && Dt.rightB z n e && decide (Dt.num y m d < Dt.num z n e)
theorem ahead_not1 {y m d z n e : Int} (h : Dt.rightB y m d = false) : aheadB y m d z n e = false := by
  unfold aheadB
  rw [h]
  rfl
theorem ahead_not2 {y m d z n e : Int} (h : Dt.rightB z n e = false) : aheadB y m d z n e = false := by
  unfold aheadB
  rw [h, Bool.and_false]
  rfl
theorem ahead_both {y m d z n e : Int} (h : Dt.rightB y m d = true) (k : Dt.rightB z n e = true) : aheadB y m d z n e = decide (Dt.days y m d < Dt.days z n e) := by
  unfold aheadB
  rw [h, k, Dt.days_right h, Dt.days_right k]
  rfl
set_option maxHeartbeats 1000000 in
theorem before_date (y m d z n e : Int) (w0 w : World) (hw : Below w0.heap.size w0 w) (hy : Fit y) (hm : Fit m) (hd : Fit d) (hz : Fit z) (hn : Fit n) (he : Fit e) :
    Calls Try.prog 40 #[dayV y m d, dayV z n e] w fun en w' => en = .returned (.bool (aheadB y m d z n e)) ∧ Below w0.heap.size w0 w' := by
  have HW := Lib.hid hw
  have HF := Lib.hid (And.intro hy (And.intro hm (And.intro hd (And.intro hz (And.intro hn he)))))
  clear hw hy hm hd hz hn he
  unfold dayV
  obtain ⟨W, hW⟩ : ∃ W, (w.alloc (.cells #[.int .i64 y, .int .i64 m, .int .i64 d] 24)).alloc (.cells #[.int .i64 z, .int .i64 n, .int .i64 e] 24) = W := ⟨_, rfl⟩
  have HBW : Hid (Below w0.heap.size w0 W) := Lib.hid (hW ▸ below_box (below_box HW.out _) _)
  have l0 : ∀ u, Below W.heap.size W u → u.cell? ⟨w.heap.size, 0, none⟩ = some (.int .i64 y) ∧ u.cell? ⟨w.heap.size, 1, none⟩ = some (.int .i64 m) ∧ u.cell? ⟨w.heap.size, 2, none⟩ = some (.int .i64 d) := fun u hb => by
    rw [(bcell hb).1 _ _ (by rw [← hW]; simp; omega), (bcell hb).1 _ _ (by rw [← hW]; simp; omega), (bcell hb).1 _ _ (by rw [← hW]; simp; omega), ← hW]
    simp [go_sem]
  have l1 : ∀ u, Below W.heap.size W u → u.cell? ⟨w.heap.size + 1, 0, none⟩ = some (.int .i64 z) ∧ u.cell? ⟨w.heap.size + 1, 1, none⟩ = some (.int .i64 n) ∧ u.cell? ⟨w.heap.size + 1, 2, none⟩ = some (.int .i64 e) := fun u hb => by
    rw [(bcell hb).1 _ _ (by rw [← hW]; simp), (bcell hb).1 _ _ (by rw [← hW]; simp), (bcell hb).1 _ _ (by rw [← hW]; simp), ← hW]
    simp [go_sem]
  by_cases h1 : Dt.rightB y m d = true
  · by_cases h2 : Dt.rightB z n e = true
    · rw [ahead_both h1 h2]
      go_enter Try.func40, Try.ntmps40
      go_wp2
      go_region_held3 (fun u => Below W.heap.size W u) (first | assumption | exact (Below.refl _ _).drew) (first | (go_at_call 25; refine (right_date _ _ _ W _ (by assumption) (by first | exact HF.out.1 | exact HF.out.2.1 | exact HF.out.2.2.1 | exact HF.out.2.2.2.1 | exact HF.out.2.2.2.2.1 | exact HF.out.2.2.2.2.2) (by first | exact HF.out.1 | exact HF.out.2.1 | exact HF.out.2.2.1 | exact HF.out.2.2.2.1 | exact HF.out.2.2.2.2.1 | exact HF.out.2.2.2.2.2) (by first | exact HF.out.1 | exact HF.out.2.1 | exact HF.out.2.2.1 | exact HF.out.2.2.2.1 | exact HF.out.2.2.2.2.1 | exact HF.out.2.2.2.2.2)).mono ?_; rintro en w' ⟨rfl, b⟩) | (go_at_call 49; refine (days_date _ _ _ W _ (by assumption) (by first | exact HF.out.1 | exact HF.out.2.1 | exact HF.out.2.2.1 | exact HF.out.2.2.2.1 | exact HF.out.2.2.2.2.1 | exact HF.out.2.2.2.2.2) (by first | exact HF.out.1 | exact HF.out.2.1 | exact HF.out.2.2.1 | exact HF.out.2.2.2.1 | exact HF.out.2.2.2.2.1 | exact HF.out.2.2.2.2.2) (by first | exact HF.out.1 | exact HF.out.2.1 | exact HF.out.2.2.1 | exact HF.out.2.2.2.1 | exact HF.out.2.2.2.2.1 | exact HF.out.2.2.2.2.2)).mono ?_; rintro en w' ⟨rfl, b⟩))
      go_wp2
      go_ret
      exact ⟨rfl, HBW.out.trans (b.mono HBW.out.size)⟩
    · have h2' : Dt.rightB z n e = false := by simpa using h2
      clear h2
      rw [ahead_not2 h2']
      go_enter Try.func40, Try.ntmps40
      go_wp2
      obtain ⟨g0, g1, g2⟩ := l0 W.drew (Below.refl _ _).drew
      obtain ⟨g3, g4, g5⟩ := l1 W.drew (Below.refl _ _).drew
      go_region_with (go_at_call 25; refine (right_date _ _ _ W _ (by first | assumption | exact (Below.refl _ _).drew) (by first | exact HF.out.1 | exact HF.out.2.1 | exact HF.out.2.2.1 | exact HF.out.2.2.2.1 | exact HF.out.2.2.2.2.1 | exact HF.out.2.2.2.2.2) (by first | exact HF.out.1 | exact HF.out.2.1 | exact HF.out.2.2.1 | exact HF.out.2.2.2.1 | exact HF.out.2.2.2.2.1 | exact HF.out.2.2.2.2.2) (by first | exact HF.out.1 | exact HF.out.2.1 | exact HF.out.2.2.1 | exact HF.out.2.2.2.1 | exact HF.out.2.2.2.2.1 | exact HF.out.2.2.2.2.2)).mono ?_; rintro en w' ⟨rfl, b⟩; obtain ⟨k0, k1, k2⟩ := l0 _ b; obtain ⟨k3, k4, k5⟩ := l1 _ b; first | rw [h1] | rw [h2'])
      all_goals
        go_wp2
        go_ret
        exact ⟨rfl, HBW.out.trans (b.mono HBW.out.size)⟩
  · have h1' : Dt.rightB y m d = false := by simpa using h1
    clear h1
    rw [ahead_not1 h1']
    go_enter Try.func40, Try.ntmps40
    go_wp2
    obtain ⟨g0, g1, g2⟩ := l0 W.drew (Below.refl _ _).drew
    obtain ⟨g3, g4, g5⟩ := l1 W.drew (Below.refl _ _).drew
    go_region_with (go_at_call 25; refine (right_date _ _ _ W _ (by first | assumption | exact (Below.refl _ _).drew) (by first | exact HF.out.1 | exact HF.out.2.1 | exact HF.out.2.2.1 | exact HF.out.2.2.2.1 | exact HF.out.2.2.2.2.1 | exact HF.out.2.2.2.2.2) (by first | exact HF.out.1 | exact HF.out.2.1 | exact HF.out.2.2.1 | exact HF.out.2.2.2.1 | exact HF.out.2.2.2.2.1 | exact HF.out.2.2.2.2.2) (by first | exact HF.out.1 | exact HF.out.2.1 | exact HF.out.2.2.1 | exact HF.out.2.2.2.1 | exact HF.out.2.2.2.2.1 | exact HF.out.2.2.2.2.2)).mono ?_; rintro en w' ⟨rfl, b⟩; obtain ⟨k0, k1, k2⟩ := l0 _ b; obtain ⟨k3, k4, k5⟩ := l1 _ b; rw [h1'])
    all_goals
      go_wp2
      go_ret
      exact ⟨rfl, HBW.out.trans (b.mono HBW.out.size)⟩
end Go.Proofs.Ythcaecinjmnlbab
