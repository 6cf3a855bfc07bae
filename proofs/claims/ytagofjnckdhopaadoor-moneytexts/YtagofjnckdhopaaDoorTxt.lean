/- TEXTS, as the contracts speak of them; the table of powers of ten behind new memory. -/
import Derived.Test.YtagofjnckdhopaaDoorSeg
import Derived.Test.YtagofjnckdhopaaDoorMny
import Derived.Test.YtagofjnckdhopaaDoorShelf
import Derived.Lib.OthersKept
import Derived.Laws.Strings3
import Derived.Laws.Runes
import Derived.Laws.Concat
import Derived.Deep.RegionHeld3
import Derived.Lib.LaidTab
namespace Go.Proofs.YtagofjnckdhopaaDoor
open Go.RowKit

/-! ### a text at a place -/
def txt (s : ByteArray) : List UInt8 := s.data.toList
theorem txt_len (s : ByteArray) : (txt s).length = s.size := Array.length_toList
theorem txt_ext {s t : ByteArray} (h : txt s = txt t) : s = t := by
  cases s; cases t
  simp only [txt] at h
  exact congrArg ByteArray.mk (Array.toList_inj.1 h)
theorem drop_ne (s : ByteArray) (pos : Nat) (h : pos < s.size) : (txt s).drop pos ≠ [] := by
  intro e
  have := congrArg List.length e
  rw [List.length_drop, txt_len, List.length_nil] at this
  omega
theorem drop_end (s : ByteArray) (pos : Nat) (h : ¬ pos < s.size) : (txt s).drop pos = [] :=
  List.drop_eq_nil_of_le (by rw [txt_len]; omega)
theorem dec_at (s : ByteArray) (pos : Nat) : Lib.decodeL ((txt s).drop pos) = Utf8.decode s pos := Lib.decodeL_drop s pos
theorem dec_pos (s : ByteArray) (pos : Nat) : 1 ≤ (Utf8.decode s pos).2 := Lib.width_pos s pos
theorem dec_le (s : ByteArray) (pos : Nat) (h : pos < s.size) : pos + (Utf8.decode s pos).2 ≤ s.size := by
  have := Rn.dle _ (drop_ne s pos h)
  rw [dec_at, List.length_drop, txt_len] at this
  omega
theorem dec_max (s : ByteArray) (pos : Nat) : (Utf8.decode s pos).1 ≤ 1114111 := Lib.rune_le s pos
theorem runes_at (s : ByteArray) (pos : Nat) (h : pos < s.size) : Rn.runes ((txt s).drop pos) = (Utf8.decode s pos).1 :: Rn.runes ((txt s).drop (pos + (Utf8.decode s pos).2)) := by
  rw [Rn.runes_step _ (drop_ne s pos h), dec_at, List.drop_drop]
theorem runes_end (s : ByteArray) (pos : Nat) (h : ¬ pos < s.size) : Rn.runes ((txt s).drop pos) = [] := by rw [drop_end s pos h]; rfl
theorem below_iter (w : World) (s : ByteArray) (pos : Nat) : Below w.heap.size w (w.iter s pos) := (Below.refl _ _).alloc (Nat.le_refl _) _
theorem ret_int {a b : Int} (h : a = b) : Ending.returned (.int .i64 a) = .returned (.int .i64 b) := by rw [h]
theorem ret_str {a b : ByteArray} (h : a = b) : Ending.returned (.string a) = .returned (.string b) := by rw [h]

theorem tl (s : ByteArray) : s.toList = txt s := ByteArray.toList_eq s
theorem size_mk (l : List UInt8) : (ByteArray.mk l.toArray).size = l.length := rfl
theorem txt_mk (l : List UInt8) : txt (ByteArray.mk l.toArray) = l := rfl
theorem mk_txt (s : ByteArray) : s = ⟨(txt s).toArray⟩ := rfl
theorem fits {s : ByteArray} (h : s.data.toList.length ≤ reachBytes) : s.size ≤ 140737488355328 := by
  have h1 := txt_len s
  unfold txt at h1
  unfold reachBytes at h
  omega
theorem txt_app (a b : ByteArray) : txt (a ++ b) = txt a ++ txt b := by simp [txt, ByteArray.data_append]
theorem add_run (a b : ByteArray) (h : a.size + b.size ≤ 9223372036854775807) : ∃ t, a ++ b = t ∧ txt t = txt a ++ txt b ∧ t.size = a.size + b.size ∧ ∀ u, (Op.stringOp .add a b).run Tryd.prog u = .ok (.string t) u :=
  ⟨_, rfl, txt_app a b, by simp, fun u => run_string_add_sum u a b h⟩

/-! ### the table of powers of ten -/
def Tab (w : World) : Prop := Lib.TabIs Tryd.prog w "internal/strconv.uint64pow10" .u64 Lib.pow10Tab
theorem tab_lt {w : World} {n : String} {k : IntKind} {zs : List Int} (h : Lib.TabIs Tryd.prog w n k zs) : ∃ g, Tryd.prog.globalNamed n = some g ∧ g < w.heap.size := by
  unfold Lib.TabIs World.var? at h
  cases hg : Tryd.prog.globalNamed n with
  | none => simp [hg] at h
  | some g =>
    refine ⟨g, rfl, ?_⟩
    simp only [hg, Option.bind_some] at h
    rcases Nat.lt_or_ge g w.heap.size with h' | h'
    · exact h'
    · rw [Array.getElem?_eq_none h'] at h; simp at h
theorem Tab.below {w w' : World} (h : Tab w) (hb : Below w.heap.size w w') : Tab w' := by
  obtain ⟨g, hg, hlt⟩ := tab_lt h
  exact var?_below hb hg hlt h
theorem below_grow (w : World) (k : Nat) (os : Array Obj) : Below w.heap.size w (Sort.grow (w.drewN k) os) := by
  refine ⟨rfl, rfl, rfl, ?_, ?_⟩
  · simp [Sort.grow]
  · intro b hb
    simp only [Sort.grow]
    rw [Array.getElem?_append_left (by simpa using hb)]
    rfl
theorem itoa_any (n : Int) (h0 : -9223372036854775808 ≤ n) (h1 : n ≤ 9223372036854775807) (w : World) (ht : Tab w) :
    Calls Tryd.prog 28 #[.int .i64 n] w fun e w' => e = .returned (.string ⟨(Lib.itoa n).toArray⟩) ∧ Below w.heap.size w w' :=
  (Tryd.strconv_Itoa n h0 h1 w ht).mono fun _ _ ⟨h1, k, os, h2⟩ => ⟨h1, by rw [h2]; exact below_grow w k os⟩
theorem itoa_small (i : Nat) (hi : i < 10) (w : World) :
    Calls Tryd.prog 28 #[.int .i64 i] w fun e w' => e = .returned (.string ⟨#[UInt8.ofNat (48 + i)]⟩) ∧ w' = w :=
  (Tryd.strconv_Itoa_small i (by omega) w).mono fun _ _ ⟨h1, h2⟩ => ⟨by rw [h1, Lib.decDigits_one hi], h2⟩
end Go.Proofs.YtagofjnckdhopaaDoor
