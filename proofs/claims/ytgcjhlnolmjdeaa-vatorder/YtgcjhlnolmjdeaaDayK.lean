/- DAYS AS THEY ARE HANDED OVER: what package date's contracts and those of the document's own answers share. -/
import Derived.Test.YtgcjhlnolmjdeaaPlain
import Derived.Test.YtgcjhlnolmjdeaaDtTxt
import Derived.Test.YtgcjhlnolmjdeaaTxtN
namespace Go.Proofs.Ytgcjhlnolmjdeaa
open Go.RowKit

/-- a day as it is handed over -/
def dayV (y m d : Int) : Value := .agg #[.int .i64 y, .int .i64 m, .int .i64 d]
theorem right_len {y m d : Int} (h1 : 1 ≤ y) (h2 : y ≤ 9999) (h3 : 1 ≤ d) : Dt.rightB y m d = decide (d ≤ Dt.len y m) := by
  unfold Dt.rightB
  rw [Bool.eq_iff_iff, decide_eq_true_iff, decide_eq_true_iff]
  exact ⟨fun h => h.2.2.2, fun h => ⟨h1, h2, h3, h⟩⟩
theorem right_none {y m d : Int} (h : ¬ 1 ≤ y ∨ ¬ y ≤ 9999 ∨ ¬ 1 ≤ d) : Dt.rightB y m d = false := by
  rw [Bool.eq_false_iff]
  intro k
  rw [Dt.right_iff] at k
  omega
theorem below_box {w0 w : World} (h : Below w0.heap.size w0 w) (o : Obj) : Below w0.heap.size w0 (w.alloc o) := h.alloc h.size o
theorem bcell {W w1 : World} (hb : Below W.heap.size W w1) : (∀ b o, b < W.heap.size → w1.cell? ⟨b, o, none⟩ = W.cell? ⟨b, o, none⟩) ∧ (∀ b o, b < W.heap.size → w1.frozen? ⟨b, o, none⟩ = W.frozen? ⟨b, o, none⟩) :=
  ⟨fun b o h => hb.cell (p := ⟨b, o, none⟩) h, fun b o h => hb.frozen (p := ⟨b, o, none⟩) h⟩
def dayB (y m d : Int) (b : Bool) : Ending := .returned (.tuple #[dayV y m d, .bool b])
theorem days_first {y m : Int} (h1 : 1 ≤ y) (h2 : y ≤ 9999) (h3 : 1 ≤ m) (h4 : m ≤ 12) : Dt.days y m 1 = Dt.yd y + Dt.cum y m := by
  have h5 := Dt.len_lo (y := y) h3 h4
  rw [Dt.days_right (Dt.right_mk ⟨h1, h2, by omega, by omega⟩)]
  unfold Dt.num
  omega
/-- the world with the answer's own place -/
def boxW (w : World) : World := w.alloc (.cells #[.int .i64 0, .int .i64 0, .int .i64 0] 23)
theorem last_of {n y m : Int} (h1 : 1 ≤ y) (h2 : y ≤ 9999) (h3 : 1 ≤ m) (h4 : m ≤ 12) (h5 : Dt.yd y + Dt.cum y m ≤ n) (h6 : n < Dt.yd y + Dt.cum y (m + 1)) : Dt.rightB y m (1 + n - (Dt.yd y + Dt.cum y m)) = true ∧ Dt.num y m (1 + n - (Dt.yd y + Dt.cum y m)) = n := by
  have h7 := Dt.cum_succ y m h3 h4
  refine ⟨Dt.right_mk ⟨h1, h2, by omega, by omega⟩, ?_⟩
  unfold Dt.num
  omega
theorem below_set3 {w0 w w3 : World} (h0 : Below w0.heap.size w0 w) (h3 : Below (boxW w).heap.size (boxW w) w3) (a b c : Value) :
    Below w0.heap.size w0 (((w3.setCell ⟨w.heap.size, 0, none⟩ a).setCell ⟨w.heap.size, 1, none⟩ b).setCell ⟨w.heap.size, 2, none⟩ c) := by
  have h1 : Below w0.heap.size w0 w3 := (below_box h0 _).trans (h3.mono (below_box h0 _).size)
  exact ((h1.setCell h0.size _).setCell h0.size _).setCell h0.size _
def dayE (t : Int × Int × Int × Int) : Ending := .returned (.tuple #[dayV t.1 t.2.1 t.2.2.1, .int .i64 t.2.2.2])
theorem at_txt (s : ByteArray) (i : Nat) (h : i < s.size) : s[i] = (txt s)[i]'(by rw [txt_len]; exact h) := rfl
/-- digits, as a number -/
def pv (l : List UInt8) : Nat := l.foldl (fun x b => 10 * x + Dt.worth b) 0
theorem worth_le (b : UInt8) : Dt.worth b ≤ 207 := by
  have := b.toNat_lt
  unfold Dt.worth
  omega
theorem fold_le : ∀ (l : List UInt8) (x : Nat), 9 * l.foldl (fun x b => 10 * x + Dt.worth b) x + 207 ≤ (9 * x + 207) * 10 ^ l.length
  | [], x => by simp
  | b :: l, x => by
    have h := fold_le l (10 * x + Dt.worth b)
    have h1 := worth_le b
    have h2 : (9 * (10 * x + Dt.worth b) + 207) * 10 ^ l.length ≤ ((9 * x + 207) * 10) * 10 ^ l.length := Nat.mul_le_mul_right _ (by omega)
    rw [List.foldl_cons, List.length_cons, Nat.pow_succ, Nat.mul_comm (10 ^ l.length) 10, ← Nat.mul_assoc]
    omega
theorem pv_le (l : List UInt8) (h : l.length ≤ 4) : pv l ≤ 300000 := by
  have h1 := fold_le l 0
  have h2 : 10 ^ l.length ≤ 10 ^ 4 := Nat.pow_le_pow_right (by omega) h
  unfold pv
  omega
theorem pv_step (l : List UInt8) (b : UInt8) (h : 48 ≤ b.toNat) : (pv l : Int) * 10 + ((b.toNat : Int) - 48) = (pv (l ++ [b]) : Int) := by
  have e : pv (l ++ [b]) = 10 * pv l + Dt.worth b := by
    unfold pv
    rw [List.foldl_append]
    rfl
  rw [e]
  unfold Dt.worth
  omega
theorem bad_told {a b c d f g i j : UInt8} (h : (Dt.isDig a && Dt.isDig b && Dt.isDig c && Dt.isDig d && Dt.isDig f && Dt.isDig g && Dt.isDig i && Dt.isDig j) = false) : dayE (Dt.told [a, b, c, d, 45, f, g, 45, i, j]) = dayE (0, 0, 0, 4) := by
  rw [Dt.told_none]
  rw [Dt.parse_ten, if_neg]
  intro k
  simp only [beq_self_eq_true, Bool.and_true] at k
  rw [k] at h
  cases h
theorem good_parse {a b c d f g i j : UInt8} (h : ([a, b, c, d].take 10 ++ [f, g].take (10 - 5) ++ [i, j].take (10 - 8)).all Dt.isDig = true) : Dt.parse [a, b, c, d, 45, f, g, 45, i, j] = some (pv [a, b, c, d], pv [f, g], pv [i, j]) := by
  simp only [List.take, List.cons_append, List.nil_append, List.all_cons, List.all_nil, Bool.and_true, Bool.and_eq_true] at h
  rw [Dt.parse_ten, if_pos (by simp [h])]
  simp only [pv, List.foldl, Option.some.injEq, Prod.mk.injEq]
  refine ⟨?_, ?_, ?_⟩ <;> omega
theorem told_len {l : List UInt8} (h : l.length ≠ 10) : Dt.told l = (0, 0, 0, 4) := Dt.told_none (Dt.parse_len h)
theorem told_dash {a b c d e f g h i j : UInt8} (hn : e ≠ 45 ∨ h ≠ 45) : Dt.told [a, b, c, d, e, f, g, h, i, j] = (0, 0, 0, 4) := by
  apply Dt.told_none
  rw [Dt.parse_ten, if_neg]
  intro k
  simp only [Bool.and_eq_true, beq_iff_eq] at k
  rcases hn with hn | hn
  · exact hn k.1.1.1.1.1.2
  · exact hn k.1.1.2
theorem ne_45 {e : UInt8} (h : e ≠ 45) : ((e.toNat : Int) != 45) = true := bne_iff_ne.2 fun k => h (UInt8.toNat_inj.1 (by
  have : (45 : UInt8).toNat = 45 := rfl
  omega))
theorem size45 : (ByteArray.mk #[45]).size = 1 := rfl
end Go.Proofs.Ytgcjhlnolmjdeaa
