/- THE WALK OF SessionOnce. (By gensnonce.py.) -/
import Derived.Test.YtfilanbjfnnknaaSnRn
import Derived.Test.YtfilanbjfnnknaaAqS
import Derived.Test.YtfilanbjfnnknaaBookIn
import Derived.Lib.QuietBelow
import Derived.Deep.RegionLaw
import Derived.Deep.DeepCutAuto
import Derived.Deep.CutBlock
set_option maxRecDepth 100000
set_option linter.unusedVariables false
namespace Go.Proofs.Ytfilanbjfnnknaa
open Go.RowKit
open Mem
open Go.Sort (grow)

def upd {α : Type} (f : Nat → α) (k : Nat) (v : α) : Nat → α := fun i => if i = k then v else f i
theorem upd_same {α : Type} (f : Nat → α) (k : Nat) (v : α) : upd f k v k = v := if_pos rfl
theorem upd_other {α : Type} (f : Nat → α) {k i : Nat} (v : α) (h : i ≠ k) : upd f k v i = f i := if_neg h
/-- eleven cells lie in a block -/
def Arr (u : World) (g : Nat) (t : TypeId) (f : Nat → Value) : Prop := u.heap[g]? = some (.cells #[f 0, f 1, f 2, f 3, f 4, f 5, f 6, f 7, f 8, f 9, f 10] t (0, 0))
section
variable {u v : World} {g k : Nat} {t : TypeId} {f : Nat → Value}
theorem Arr.lt (h : Arr u g t f) : g < u.heap.size := by
  obtain ⟨hl, _⟩ := Array.getElem?_eq_some_iff.1 h
  exact hl
theorem Arr.below (h : Arr u g t f) (b : Below u.heap.size u v) : Arr v g t f := (b.block g h.lt).trans h
theorem Arr.cell (h : Arr u g t f) (hk : k ≤ 10) : u.cell? ⟨g, k, none⟩ = some (f k) := by
  rw [cell_of_row u g _ _ _ _ h]
  have h4 : k = 0 ∨ k = 1 ∨ k = 2 ∨ k = 3 ∨ k = 4 ∨ k = 5 ∨ k = 6 ∨ k = 7 ∨ k = 8 ∨ k = 9 ∨ k = 10 := by omega
  rcases h4 with rfl | rfl | rfl | rfl | rfl | rfl | rfl | rfl | rfl | rfl | rfl <;> rfl
theorem Arr.frozen (h : Arr u g t f) : u.frozen? ⟨g, k, none⟩ = false := frozen_of_row u g k _ _ h
theorem Arr.far (h : Arr u g t f) {g' : Nat} (hne : g ≠ g') (o : Nat) (x : Value) : Arr (u.setCell ⟨g', o, none⟩ x) g t f := by
  unfold Arr
  rw [heap_setCell_other u ⟨g', o, none⟩ g x hne]
  exact h
theorem Arr.set (h : Arr u g t f) (hk : k ≤ 10) (x : Value) : Arr (u.setCell ⟨g, k, none⟩ x) g t (upd f k x) := by
  unfold Arr
  rw [heap_setCell_same u g k _ _ x h]
  have h4 : k = 0 ∨ k = 1 ∨ k = 2 ∨ k = 3 ∨ k = 4 ∨ k = 5 ∨ k = 6 ∨ k = 7 ∨ k = 8 ∨ k = 9 ∨ k = 10 := by omega
  rcases h4 with rfl | rfl | rfl | rfl | rfl | rfl | rfl | rfl | rfl | rfl | rfl <;> rfl
end
theorem upd_int (la : Nat → Int) (k : Nat) (x : Int) : upd (fun i => Value.int .i64 (la i)) k (.int .i64 x) = fun i => .int .i64 (upd la k x i) := by
  funext i
  unfold upd
  split <;> rfl
theorem upd_bool (op : Nat → Bool) (k : Nat) (x : Bool) : upd (fun i => Value.bool (op i)) k (.bool x) = fun i => .bool (upd op k x i) := by
  funext i
  unfold upd
  split <;> rfl
theorem Sn.Ls.far {u : World} {lo : Option Addr} {p lc : Nat} {l : List Sn.T} (h : Sn.Ls u lo p lc l) {g : Nat} (hne : ∀ ad, lo = some ad → g ≠ ad.block) (o : Nat) (x : Value) : Sn.Ls (u.setCell ⟨g, o, none⟩ x) lo p lc l := by
  refine ⟨h.len, h.fits, h.reach, h.nil, ?_, h.short⟩
  rcases h.seg with e | ⟨b, off, e, hc⟩
  · exact .inl e
  · have hb : g ≠ b := hne _ e
    refine .inr ⟨b, off, e, fun k hk => ?_⟩
    obtain ⟨c0, c1, c2, c3, c4⟩ := hc k hk
    exact ⟨by rw [World.cell?_setCell_far u _ _ x hb]; exact c0, by rw [World.cell?_setCell_far u _ _ x hb]; exact c1, by rw [World.cell?_setCell_far u _ _ x hb]; exact c2, by rw [World.cell?_setCell_far u _ _ x hb]; exact c3, by rw [World.cell?_setCell_far u _ _ x hb]; exact c4⟩
/-- what is remembered is the list -/
structure OInv (l : List Sn.T) (la re : Nat → Int) (op : Nat → Bool) : Prop where
  right : Sp.rightB l = true
  has : ∀ k : Nat, 1 ≤ k → k ≤ 10 → decide (Sp.ix (k : Int) l < l.length) = op k
  own : ∀ k : Nat, 1 ≤ k → k ≤ 10 → op k = true → Sp.own l (k : Int) = ⟨k, la k, 0, re k, 0⟩
  low : ∀ k : Nat, 1 ≤ k → k ≤ 10 → op k = true → 0 ≤ la k ∧ la k ≤ 20
theorem oinv_nil : OInv [] (fun _ => 0) (fun _ => 0) (fun _ => false) :=
  ⟨rfl, fun _ _ _ => rfl, fun _ _ _ h => (by cases h), fun _ _ _ h => (by cases h)⟩
section
variable {l : List Sn.T} {la re : Nat → Int} {op : Nat → Bool} {k : Nat}
theorem OInv.in (h : OInv l la re op) (h1 : 1 ≤ k) (hk : k ≤ 10) (ho : op k = true) : Sp.ix (k : Int) l < l.length := of_decide_eq_true ((h.has k h1 hk).trans ho)
theorem OInv.out (h : OInv l la re op) (h1 : 1 ≤ k) (hk : k ≤ 10) (ho : op k = false) : ¬ Sp.ix (k : Int) l < l.length := of_decide_eq_false ((h.has k h1 hk).trans ho)
theorem OInv.joined (h : OInv l la re op) (h1 : 1 ≤ k) (hk : k ≤ 10) (ho : op k = false) (h8 : l.length < 8) : OInv (Sp.openL l (Sp.new (k : Int))) (upd la k 0) (upd re k 0) (upd op k true) := by
  have hno := h.out h1 hk ho
  have hw := fun i : Int => Sp.open_own (r := Sp.new (k : Int)) ((Sp.right_iff l).1 h.right).2.2 hno i
  refine ⟨Sp.join_right h.right (by omega) hno h8, ?_, ?_, ?_⟩
  · intro i hi1 hi
    by_cases hik : i = k
    · subst hik
      rw [upd_same, decide_eq_true_iff]
      exact (hw i).1.2 (.inl rfl)
    · rw [upd_other _ _ hik, ← h.has i hi1 hi]
      apply decide_eq_decide.2
      rw [(hw i).1]
      constructor
      · rintro (e | e)
        · have e' : (i : Int) = (k : Int) := e
          omega
        · exact e
      · exact .inr
  · intro i hi1 hi ho'
    rw [(hw i).2]
    by_cases hik : i = k
    · subst hik
      rw [upd_same, upd_same]
      exact if_pos rfl
    · rw [upd_other _ _ hik, upd_other _ _ hik, if_neg (by show ¬ (i : Int) = (k : Int); omega)]
      rw [upd_other _ _ hik] at ho'
      exact h.own i hi1 hi ho'
  · intro i hi1 hi ho'
    by_cases hik : i = k
    · subst hik
      rw [upd_same]
      omega
    · rw [upd_other _ _ hik] at ho' ⊢
      exact h.low i hi1 hi ho'
theorem OInv.left (h : OInv l la re op) (h1 : 1 ≤ k) (hk : k ≤ 10) (ho : op k = true) : OInv (Sp.cut l (Sp.ix (k : Int) l)) la re (upd op k false) := by
  have hin := h.in h1 hk ho
  have hw := fun i : Int => Sp.cut_own ((Sp.right_iff l).1 h.right).2.2 hin i
  refine ⟨Sp.cut_right h.right _, ?_, ?_, ?_⟩
  · intro i hi1 hi
    by_cases hik : i = k
    · subst hik
      rw [upd_same, decide_eq_false_iff_not]
      exact fun e => ((hw i).1.1 e).1 rfl
    · rw [upd_other _ _ hik, ← h.has i hi1 hi]
      apply decide_eq_decide.2
      rw [(hw i).1]
      exact ⟨fun e => e.2, fun e => ⟨by omega, e⟩⟩
  · intro i hi1 hi ho'
    by_cases hik : i = k
    · subst hik
      rw [upd_same] at ho'
      cases ho'
    · rw [upd_other _ _ hik] at ho'
      rw [(hw i).2 (by omega)]
      exact h.own i hi1 hi ho'
  · intro i hi1 hi ho'
    by_cases hik : i = k
    · subst hik
      rw [upd_same] at ho'
      cases ho'
    · rw [upd_other _ _ hik] at ho'
      exact h.low i hi1 hi ho'
theorem OInv.look (h : OInv l la re op) (h1 : 1 ≤ k) (hk : k ≤ 10) (ho : op k = true) {q : Int} (hq : 1 ≤ q ∧ q ≤ 20) (hl : la k ≤ q) : Sp.lookE l (k : Int) q = 0 :=
  Sp.look_ok h.right (h.in h1 hk ho) (Sp.num_iff.2 ⟨hq.1, by omega⟩) (by rw [h.own k h1 hk ho]; show ¬ q < la k; omega)
theorem OInv.kept (h : OInv l la re op) (h1 : 1 ≤ k) (hk : k ≤ 10) (ho : op k = true) {q n : Int} (hq : 1 ≤ q ∧ q ≤ 20) (hl : la k < q) :
    Sp.keepE l (k : Int) q = 0 ∧ Sp.keepR l (k : Int) q 0 n 0 = l.set (Sp.ix (k : Int) l) ⟨k, q, 0, n, 0⟩ ∧ OInv (l.set (Sp.ix (k : Int) l) ⟨k, q, 0, n, 0⟩) (upd la k q) (upd re k n) op := by
  have hin := h.in h1 hk ho
  have hE := h.look h1 hk ho hq (by omega)
  have hN := Sp.look_new hE (by rw [h.own k h1 hk ho]; show q ≠ la k; omega)
  have hK := Sp.keep_ok (y := 0) (n := n) (g := 0) hE hN.1
  have hw := fun i : Int => Sp.set_own (r := ⟨k, q, 0, n, 0⟩) hin rfl i
  refine ⟨hK.1, hK.2, Sp.keep_right hE 0 n 0, ?_, ?_, ?_⟩
  · intro i hi1 hi
    rw [(hw i).1, List.length_set]
    exact h.has i hi1 hi
  · intro i hi1 hi ho'
    rw [(hw i).2]
    by_cases hik : i = k
    · subst hik
      rw [if_pos rfl, upd_same, upd_same]
    · rw [if_neg (by omega), upd_other _ _ hik, upd_other _ _ hik]
      exact h.own i hi1 hi ho'
  · intro i hi1 hi ho'
    by_cases hik : i = k
    · subst hik
      rw [upd_same]
      omega
    · rw [upd_other _ _ hik]
      exact h.low i hi1 hi ho'
end
/-- what the walk carries from round to round -/
structure OSt (w wr : World) (g : Nat) (lo : Option Addr) (p lc : Nat) (l : List Sn.T) (la re : Nat → Int) (op : Nat → Bool) : Prop where
  gw : w.heap.size = g
  bel : Below w.heap.size w wr
  a4 : Arr wr g 41 fun i => .int .i64 (la i)
  a5 : Arr wr (g + 1) 41 fun i => .int .i64 (re i)
  a6 : Arr wr (g + 1 + 1) 42 fun i => .bool (op i)
  ls : Sn.Ls wr lo p lc l
  far : ∀ ad, lo = some ad → g + 3 ≤ ad.block
  inv : OInv l la re op
theorem own_away {w : World} {B : Nat} {v : Value} {xs : List Sn.T} (h : Sn.Own w B v xs) (hs : ∀ r ∈ xs, Sn.Short r) : ∃ ao p cap, v = .slice ao p cap ∧ Sn.Ls w ao p cap xs ∧ (∀ ad, ao = some ad → B ≤ ad.block) ∧ p = xs.length := by
  obtain ⟨ao, cap, e, hL, hg⟩ := Sn.own_ls h hs
  exact ⟨ao, _, cap, e, hL, fun ad ha => by obtain ⟨g, rfl, hB⟩ := hg ad ha; exact hB, rfl⟩
section
variable {w wr v : World} {g : Nat} {lo : Option Addr} {p lc : Nat} {l : List Sn.T} {la re : Nat → Int} {op : Nat → Bool} {k : Nat}
theorem OSt.below (h : OSt w wr g lo p lc l la re op) (b : Below wr.heap.size wr v) : OSt w v g lo p lc l la re op :=
  ⟨h.gw, bchain h.bel b, h.a4.below b, h.a5.below b, h.a6.below b, h.ls.below b, h.far, h.inv⟩
theorem OSt.size (h : OSt w wr g lo p lc l la re op) : g + 3 ≤ wr.heap.size := by
  have := h.a6.lt
  omega
/-- one joined -/
theorem OSt.joined (h : OSt w wr g lo p lc l la re op) (h1 : 1 ≤ k) (hk : k ≤ 10) (ho : op k = false) (h8 : l.length < 8) (vo : Option Addr) (q vc : Nat) (hL : Sn.Ls wr vo q vc (Sp.openL l (Sp.new (k : Int)))) (hf : ∀ ad, vo = some ad → g + 3 ≤ ad.block) :
    OSt w (((wr.setCell ⟨g + 1 + 1, k, none⟩ (.bool true)).setCell ⟨g, k, none⟩ (.int .i64 0)).setCell ⟨g + 1, k, none⟩ (.int .i64 0)) g vo q vc (Sp.openL l (Sp.new (k : Int))) (upd la k 0) (upd re k 0) (upd op k true) := by
  have e := h.gw
  refine ⟨e, bset (bset (bset h.bel (by omega) _ _) (by omega) _ _) (by omega) _ _, ?_, ?_, ?_, ((hL.far (fun ad ha => by have := hf ad ha; omega) _ _).far (fun ad ha => by have := hf ad ha; omega) _ _).far (fun ad ha => by have := hf ad ha; omega) _ _, hf, h.inv.joined h1 hk ho h8⟩
  · rw [← upd_int]
    exact ((h.a4.far (by omega) _ _).set hk _).far (by omega) _ _
  · rw [← upd_int]
    exact ((h.a5.far (by omega) _ _).far (by omega) _ _).set hk _
  · rw [← upd_bool]
    exact ((h.a6.set hk _).far (by omega) _ _).far (by omega) _ _
/-- one left -/
theorem OSt.left (h : OSt w wr g lo p lc l la re op) (h1 : 1 ≤ k) (hk : k ≤ 10) (ho : op k = true) (vo : Option Addr) (q vc : Nat) (hL : Sn.Ls wr vo q vc (Sp.cut l (Sp.ix (k : Int) l))) (hf : ∀ ad, vo = some ad → g + 3 ≤ ad.block) :
    OSt w (wr.setCell ⟨g + 1 + 1, k, none⟩ (.bool false)) g vo q vc (Sp.cut l (Sp.ix (k : Int) l)) la re (upd op k false) := by
  have e := h.gw
  refine ⟨e, bset h.bel (by omega) _ _, h.a4.far (by omega) _ _, h.a5.far (by omega) _ _, ?_, hL.far (fun ad ha => by have := hf ad ha; omega) _ _, hf, h.inv.left h1 hk ho⟩
  rw [← upd_bool]
  exact h.a6.set hk _
/-- a number was kept -/
theorem OSt.kept (h : OSt w wr g lo p lc l la re op) (h1 : 1 ≤ k) (hk : k ≤ 10) (ho : op k = true) {s n : Int} (hs : 1 ≤ s ∧ s ≤ 20) (hl : la k < s) (vo : Option Addr) (q vc : Nat) (hL : Sn.Ls wr vo q vc (l.set (Sp.ix (k : Int) l) ⟨k, s, 0, n, 0⟩)) (hf : ∀ ad, vo = some ad → g + 3 ≤ ad.block) :
    OSt w ((wr.setCell ⟨g, k, none⟩ (.int .i64 s)).setCell ⟨g + 1, k, none⟩ (.int .i64 n)) g vo q vc (l.set (Sp.ix (k : Int) l) ⟨k, s, 0, n, 0⟩) (upd la k s) (upd re k n) op := by
  have e := h.gw
  refine ⟨e, bset (bset h.bel (by omega) _ _) (by omega) _ _, ?_, ?_, (h.a6.far (by omega) _ _).far (by omega) _ _, (hL.far (fun ad ha => by have := hf ad ha; omega) _ _).far (fun ad ha => by have := hf ad ha; omega) _ _, hf, (h.inv.kept (n := n) h1 hk ho hs hl).2.2⟩
  · rw [← upd_int]
    exact (h.a4.set hk _).far (by omega) _ _
  · rw [← upd_int]
    exact (h.a5.far (by omega) _ _).set hk _
end
theorem ostart (w : World) : OSt w (((w.alloc (.cells #[.int .i64 0, .int .i64 0, .int .i64 0, .int .i64 0, .int .i64 0, .int .i64 0, .int .i64 0, .int .i64 0, .int .i64 0, .int .i64 0, .int .i64 0] 41)).alloc (.cells #[.int .i64 0, .int .i64 0, .int .i64 0, .int .i64 0, .int .i64 0, .int .i64 0, .int .i64 0, .int .i64 0, .int .i64 0, .int .i64 0, .int .i64 0] 41)).alloc (.cells #[.bool false, .bool false, .bool false, .bool false, .bool false, .bool false, .bool false, .bool false, .bool false, .bool false, .bool false] 42)) w.heap.size none 0 0 [] (fun _ => 0) (fun _ => 0) (fun _ => false) := by
  have b : ∀ (x : World) (o : Obj), Below x.heap.size x (x.alloc o) := fun x o => (Below.refl _ _).alloc (Nat.le_refl _) o
  have h4 : Arr (w.alloc (.cells #[.int .i64 0, .int .i64 0, .int .i64 0, .int .i64 0, .int .i64 0, .int .i64 0, .int .i64 0, .int .i64 0, .int .i64 0, .int .i64 0, .int .i64 0] 41)) w.heap.size 41 (fun _ => .int .i64 0) := heap_alloc_new w _
  have hb := b w (.cells #[.int .i64 0, .int .i64 0, .int .i64 0, .int .i64 0, .int .i64 0, .int .i64 0, .int .i64 0, .int .i64 0, .int .i64 0, .int .i64 0, .int .i64 0] 41)
  have e1 : (w.alloc (.cells #[.int .i64 0, .int .i64 0, .int .i64 0, .int .i64 0, .int .i64 0, .int .i64 0, .int .i64 0, .int .i64 0, .int .i64 0, .int .i64 0, .int .i64 0] 41)).heap.size = w.heap.size + 1 := by simp
  generalize w.alloc (.cells #[.int .i64 0, .int .i64 0, .int .i64 0, .int .i64 0, .int .i64 0, .int .i64 0, .int .i64 0, .int .i64 0, .int .i64 0, .int .i64 0, .int .i64 0] 41) = x1 at *
  have h5 : Arr (x1.alloc (.cells #[.int .i64 0, .int .i64 0, .int .i64 0, .int .i64 0, .int .i64 0, .int .i64 0, .int .i64 0, .int .i64 0, .int .i64 0, .int .i64 0, .int .i64 0] 41)) (w.heap.size + 1) 41 (fun _ => .int .i64 0) := e1 ▸ heap_alloc_new x1 _
  have c1 := b x1 (.cells #[.int .i64 0, .int .i64 0, .int .i64 0, .int .i64 0, .int .i64 0, .int .i64 0, .int .i64 0, .int .i64 0, .int .i64 0, .int .i64 0, .int .i64 0] 41)
  have e2 : (x1.alloc (.cells #[.int .i64 0, .int .i64 0, .int .i64 0, .int .i64 0, .int .i64 0, .int .i64 0, .int .i64 0, .int .i64 0, .int .i64 0, .int .i64 0, .int .i64 0] 41)).heap.size = w.heap.size + 1 + 1 := by rw [← e1]; simp
  generalize x1.alloc (.cells #[.int .i64 0, .int .i64 0, .int .i64 0, .int .i64 0, .int .i64 0, .int .i64 0, .int .i64 0, .int .i64 0, .int .i64 0, .int .i64 0, .int .i64 0] 41) = x2 at *
  have h6 : Arr (x2.alloc (.cells #[.bool false, .bool false, .bool false, .bool false, .bool false, .bool false, .bool false, .bool false, .bool false, .bool false, .bool false] 42)) (w.heap.size + 1 + 1) 42 (fun _ => .bool false) := e2 ▸ heap_alloc_new x2 _
  have c2 := b x2 (.cells #[.bool false, .bool false, .bool false, .bool false, .bool false, .bool false, .bool false, .bool false, .bool false, .bool false, .bool false] 42)
  exact ⟨rfl, bchain (bchain hb c1) c2, (h4.below c1).below c2, h5.below c2, h6, Sn.ls_nil _, fun ad h => (by cases h), oinv_nil⟩
set_option maxHeartbeats 16000000 in
theorem sessionOnce_walk (zs : List Aq.T) (ao : Option Addr) (n cap : Nat) (w : World) (hA : Aq.Ls w ao n cap zs) :
    Calls Try.prog 5 #[.slice ao n cap] w fun e w' => e = .returned (.bool true) ∧ Below w.heap.size w w' := by
  have HA := Lib.hid hA
  have HN := Lib.hid hA.len
  have hcap := hA.reach
  have hfit := hA.fits
  have HS0 := Lib.hid (ostart w)
  clear hA
  go_enter Try.func5, Try.ntmps5
  go_wp2_with fail
  generalize ((w.alloc (.cells #[.int .i64 0, .int .i64 0, .int .i64 0, .int .i64 0, .int .i64 0, .int .i64 0, .int .i64 0, .int .i64 0, .int .i64 0, .int .i64 0, .int .i64 0] 41)).alloc (.cells #[.int .i64 0, .int .i64 0, .int .i64 0, .int .i64 0, .int .i64 0, .int .i64 0, .int .i64 0, .int .i64 0, .int .i64 0, .int .i64 0, .int .i64 0] 41)).alloc (.cells #[.bool false, .bool false, .bool false, .bool false, .bool false, .bool false, .bool false, .bool false, .bool false, .bool false, .bool false] 42) = U at *
  obtain ⟨g, hg⟩ : ∃ g, w.heap.size = g := ⟨_, rfl⟩
  rw [hg] at HS0
  try rw [hg]
  clear hg
  go_loopw [3, 7, 8, 9, 10, 11, 12, 13, 14, 15, 16, 17, 18] (fun a x _ _ _ _ _ _ _ _ _ _ _ wr => ∃ (j : Nat) (lo : Option Addr) (p lc : Nat) (l : List Sn.T) (la re : Nat → Int) (op : Nat → Bool), j ≤ n ∧ x = .int .i64 j ∧ a = .slice lo p lc ∧ Hid (OSt w wr g lo p lc l la re op)) (fun _ x _ _ _ _ _ _ _ _ _ _ _ _ => n - (intOf x).toNat)
  case atStart => exact ⟨0, none, 0, 0, [], _, _, _, by omega, rfl, rfl, HS0⟩
  case round =>
    clear HS0
    rename World => wz
    obtain ⟨j, lo, p, lc, l, la, re, op, hj, rfl, rfl, H⟩ := hrel
    by_cases hlt : j < n ∧ j < 200
    · obtain ⟨hj1, hj2⟩ := hlt
      obtain ⟨b, off, rfl⟩ := HA.out.at (by omega)
      have hjl : j < zs.length := HN.out ▸ hj1
      have hrow := (HA.out.row j hjl).below H.out.bel
      have HBg : Hid (b < g) := Lib.hid (by have h1 := cell_lt (HA.out.row j hjl).c0; have h2 := H.out.gw; omega)
      have HZs := Lib.hid (HA.out.short _ (List.getElem_mem hjl))
      obtain ⟨z, hz⟩ : ∃ z, zs[j] = z := ⟨_, rfl⟩
      rw [hz] at hrow HZs
      have HRo := Lib.hid hrow
      clear hz
      obtain ⟨c0, c1, c2, c3⟩ := hrow
      have hlf := H.out.ls.fits
      have hlr := H.out.ls.reach
      have HP8 : Hid (p ≤ 8) := Lib.hid (by rw [H.out.ls.len]; exact ((Sp.right_iff l).1 H.out.inv.right).1)
      go_wp2_with fail
      refine (bookWithin_any z.id 1 10 _ HZs.out.2.1 (by omega) (by omega) (by omega)).mono ?_
      rintro e w1 ⟨⟨k, rfl, hk1, hk2⟩, hw1⟩
      have hw2 := hw1.symm
      clear hw1
      subst hw2
      go_wp2_with fail
      refine (bookWithin_any z.seq 1 20 _ HZs.out.2.2.1 (by omega) (by omega) (by omega)).mono ?_
      rintro e w1 ⟨⟨s, rfl, hs1, hs2⟩, hw1⟩
      have hw2 := hw1.symm
      clear hw1
      subst hw2
      have hk1' : 1 ≤ k := by omega
      have hk2' : k ≤ 10 := by omega
      have HKf : Hid (Fit (k : Int)) := Lib.hid ⟨by omega, by omega⟩
      have HSf : Hid (Fit (s : Int)) := Lib.hid ⟨by omega, by omega⟩
      have HKs : Hid ((1 : Int) ≤ (s : Int) ∧ (s : Int) ≤ 20) := Lib.hid ⟨hs1, hs2⟩
      have a6 := H.out.a6.cell hk2'
      go_upto_block 2 with fail
      go_cut [3, 10, 11, 12, 13, 14, 15, 85, 105] (fun a _ _ _ _ _ _ _ _ wx => ∃ (lo : Option Addr) (p lc : Nat) (l : List Sn.T) (la re : Nat → Int) (op : Nat → Bool), a = .slice lo p lc ∧ Hid (OSt w wx g lo p lc l la re op))
      case first =>
        by_cases e1 : z.kind = 1
        · have q1 : (z.kind == 1) = true := beq_iff_eq.2 e1
          clear e1
          cases ho : op k
          · rw [ho] at a6
            have hno := H.out.inv.out hk1' hk2' ho
            by_cases h8 : p < 8
            · have h8' : l.length < 8 := by rw [← H.out.ls.len]; exact h8
              have HJ := Lib.hid (Sp.join_ok H.out.inv.right (by omega : ¬ (k : Int) < 1) hno h8')
              have HSh := Lib.hid (Sp.join_short (l := l) H.out.ls.short HKf.out)
              have HL8 := Lib.hid h8'
              have HOp := Lib.hid ho
              clear ho hno h8'
              go_wp2_with fail
              refine (ses_join l (k : Int) lo p lc wz H.out.ls HKf.out).mono ?_
              rintro e w3 ⟨v, rfl, o, b3⟩
              rw [HJ.out.1]
              rw [HJ.out.2] at o HSh
              have H3 := Lib.hid (H.out.below b3)
              obtain ⟨vo, q, vc, rfl, hV, hvf, hq⟩ := own_away o HSh.out
              have HN2 := Lib.hid (H3.out.joined hk1' hk2' HOp.out HL8.out vo q vc hV (fun ad ha => Nat.le_trans H.out.size (hvf ad ha)))
              have a6 := H3.out.a6.cell hk2'
              rw [HOp.out] at a6
              have a4 := H3.out.a4.cell hk2'
              have a5 := H3.out.a5.cell hk2'
              have f4 := H3.out.a4.frozen (k := k)
              have f5 := H3.out.a5.frozen (k := k)
              have f6 := H3.out.a6.frozen (k := k)
              have hvl := hV.fits
              have hvr := hV.reach
              clear o b3 hV hvf hq H c0 c1 c2 c3
              go_wp2_with fail
              clear a4 a5 a6 f4 f5 f6
              generalize ((w3.setCell ⟨g + 1 + 1, k, none⟩ (.bool true)).setCell ⟨g, k, none⟩ (.int .i64 0)).setCell ⟨g + 1, k, none⟩ (.int .i64 0) = wn at *
              generalize Sp.openL l (Sp.new (k : Int)) = l2 at *
              generalize upd la k 0 = la2 at *
              generalize upd re k 0 = re2 at *
              generalize upd op k true = op2 at *
              go_meet
              exact ⟨vo, q, vc, l2, la2, re2, op2, rfl, HN2⟩
            · have HJ := Lib.hid (Sp.join_full H.out.inv.right (by omega : ¬ (k : Int) < 1) hno (by rw [← H.out.ls.len]; omega))
              clear ho hno
              go_wp2_with fail
              refine (ses_join l (k : Int) lo p lc wz H.out.ls HKf.out).mono ?_
              rintro e w3 ⟨v, rfl, o, b3⟩
              rw [HJ.out.1]
              have H3 := Lib.hid (H.out.below b3)
              clear o b3 H c0 c1 c2 c3
              go_wp2_with fail
              go_meet
              exact ⟨lo, p, lc, l, la, re, op, rfl, H3⟩
          · have HJ := Lib.hid (Sp.join_taken H.out.inv.right (by omega : ¬ (k : Int) < 1) (H.out.inv.in hk1' hk2' ho))
            clear ho
            go_wp2_with fail
            refine (ses_join l (k : Int) lo p lc wz H.out.ls HKf.out).mono ?_
            rintro e w3 ⟨v, rfl, o, b3⟩
            rw [HJ.out.1]
            have H3 := Lib.hid (H.out.below b3)
            clear o b3 H c0 c1 c2 c3
            go_wp2_with fail
            go_meet
            exact ⟨lo, p, lc, l, la, re, op, rfl, H3⟩
        · have q1 : (z.kind == 1) = false := beq_eq_false_iff_ne.2 e1
          clear e1
          by_cases e2 : z.kind = 2
          · have q2 : (z.kind == 2) = true := beq_iff_eq.2 e2
            clear e2
            cases ho : op k
            · have HJ := Lib.hid (Sp.leave_none H.out.inv.right (H.out.inv.out hk1' hk2' ho))
              have HOp := Lib.hid ho
              clear ho
              go_wp2_with fail
              refine (ses_leave l (k : Int) lo p lc wz H.out.ls HKf.out).mono ?_
              rintro e w3 ⟨v, rfl, o, b3⟩
              rw [HJ.out.1]
              have H3 := Lib.hid (H.out.below b3)
              have a6 := H3.out.a6.cell hk2'
              rw [HOp.out] at a6
              clear o b3 H c0 c1 c2 c3
              go_wp2_with fail
              clear a6
              go_meet
              exact ⟨lo, p, lc, l, la, re, op, rfl, H3⟩
            · have HJ := Lib.hid (Sp.leave_ok H.out.inv.right (H.out.inv.in hk1' hk2' ho))
              have HSh := Lib.hid (Sp.leave_short (l := l) (i := (k : Int)) H.out.ls.short)
              have HOp := Lib.hid ho
              clear ho
              go_wp2_with fail
              refine (ses_leave l (k : Int) lo p lc wz H.out.ls HKf.out).mono ?_
              rintro e w3 ⟨v, rfl, o, b3⟩
              rw [HJ.out.1]
              rw [HJ.out.2] at o HSh
              have H3 := Lib.hid (H.out.below b3)
              obtain ⟨vo, q, vc, rfl, hV, hvf, hq⟩ := own_away o HSh.out
              have HN2 := Lib.hid (H3.out.left hk1' hk2' HOp.out vo q vc hV (fun ad ha => Nat.le_trans H.out.size (hvf ad ha)))
              have a6 := H3.out.a6.cell hk2'
              rw [HOp.out] at a6
              have f6 := H3.out.a6.frozen (k := k)
              have hvl := hV.fits
              have hvr := hV.reach
              clear o b3 hV hvf hq H c0 c1 c2 c3
              go_wp2_with fail
              clear a6 f6
              generalize w3.setCell ⟨g + 1 + 1, k, none⟩ (.bool false) = wn at *
              generalize Sp.cut l (Sp.ix (k : Int) l) = l2 at *
              generalize upd op k false = op2 at *
              go_meet
              exact ⟨vo, q, vc, l2, la, re, op2, rfl, HN2⟩
          · have q2 : (z.kind == 2) = false := beq_eq_false_iff_ne.2 e2
            clear e2
            cases ho : op k
            · have HJ := Lib.hid (Sp.keep_bad (y := 0) (n := z.n) (g := 0) (l := l) (i := (k : Int)) (q := (s : Int)) (by rw [Sp.look_gone H.out.inv.right (H.out.inv.out hk1' hk2' ho)]; omega))
              have HE := Lib.hid (Sp.look_gone (q := (s : Int)) H.out.inv.right (H.out.inv.out hk1' hk2' ho))
              have HOp := Lib.hid ho
              clear ho
              go_wp2_with fail
              refine (ses_keep l (k : Int) (s : Int) ⟨0, z.n, 0⟩ lo p lc wz H.out.ls HKf.out HSf.out ⟨fit_lit rfl, HZs.out.2.2.2, fit_lit rfl⟩).mono ?_
              rintro e w3 ⟨v, rfl, o, b3⟩
              rw [HJ.out.1, HE.out]
              have H3 := Lib.hid (H.out.below b3)
              have a6 := H3.out.a6.cell hk2'
              rw [HOp.out] at a6
              clear o b3 H c0 c1 c2 c3
              go_wp2_with fail
              clear a6
              go_meet
              exact ⟨lo, p, lc, l, la, re, op, rfl, H3⟩
            · have HOw := Lib.hid (H.out.inv.own k hk1' hk2' ho)
              have HOp := Lib.hid ho
              have hin := H.out.inv.in hk1' hk2' ho
              have HNq : Hid (Sp.numB (s : Int) = true) := Lib.hid (Sp.num_iff.2 ⟨by omega, by omega⟩)
              by_cases h3 : la k < (s : Int)
              · have HK := Lib.hid (H.out.inv.kept (n := z.n) hk1' hk2' ho HKs.out h3)
                have HSh := Lib.hid (Sp.keep_short (l := l) (i := (k : Int)) (q := (s : Int)) (r := ⟨0, z.n, 0⟩) H.out.ls.short HKf.out HSf.out ⟨fit_lit rfl, HZs.out.2.2.2, fit_lit rfl⟩)
                simp only at HSh
                have d3 : decide (la k < (s : Int)) = true := decide_eq_true h3
                have HLt := Lib.hid h3
                clear ho hin h3
                go_wp2_with fail
                refine (ses_keep l (k : Int) (s : Int) ⟨0, z.n, 0⟩ lo p lc wz H.out.ls HKf.out HSf.out ⟨fit_lit rfl, HZs.out.2.2.2, fit_lit rfl⟩).mono ?_
                rintro e w3 ⟨v, rfl, o, b3⟩
                simp only at o
                rw [HK.out.1]
                rw [HK.out.2.1] at o HSh
                have H3 := Lib.hid (H.out.below b3)
                obtain ⟨vo, q, vc, rfl, hV, hvf, hq⟩ := own_away o HSh.out
                have HN2 := Lib.hid (H3.out.kept (n := z.n) hk1' hk2' HOp.out HKs.out HLt.out vo q vc hV (fun ad ha => Nat.le_trans H.out.size (hvf ad ha)))
                obtain ⟨c0, c1, c2, c3⟩ := HRo.out.below b3
                have a6 := H3.out.a6.cell hk2'
                rw [HOp.out] at a6
                have a4 := H3.out.a4.cell hk2'
                have a5 := H3.out.a5.cell hk2'
                have f4 := H3.out.a4.frozen (k := k)
                have f5 := H3.out.a5.frozen (k := k)
                have hvl := hV.fits
                have hvr := hV.reach
                have hn1 : ¬ g = b := by have := HBg.out; omega
                have hn2 : ¬ g + 1 = b := by have := HBg.out; omega
                have hn3 : ¬ b = g := by have := HBg.out; omega
                have hn4 : ¬ b = g + 1 := by have := HBg.out; omega
                have hk11 : (k : Int) < 11 := by omega
                clear o b3 hV hvf hq H
                go_wp2_with fail
                go_region
                go_wp2_with fail
                clear a4 a5 a6 f4 f5 c0 c1 c2 c3
                generalize l.set (Sp.ix (k : Int) l) ⟨k, s, 0, z.n, 0⟩ = l2 at *
                generalize upd la k (s : Int) = la2 at *
                generalize upd re k z.n = re2 at *
                replace HN2 := Lib.hid (HN2.out.below (Below.refl _ _).drew)
                generalize ((w3.setCell ⟨g, k, none⟩ (.int .i64 (s : Int))).setCell ⟨g + 1, k, none⟩ (.int .i64 z.n)).drew = wn at *
                go_meet
                exact ⟨vo, q, vc, l2, la2, re2, op, rfl, HN2⟩
              · have d3 : decide (la k < (s : Int)) = false := decide_eq_false h3
                have HE : Hid (Sp.keepE l (k : Int) (s : Int) ≠ 0) := Lib.hid (by
                  by_cases h4 : (s : Int) < la k
                  · have e := Sp.look_stale H.out.inv.right hin HNq.out (by rw [HOw.out]; exact h4)
                    rw [(Sp.keep_bad (y := 0) (n := 0) (g := 0) (by rw [e]; omega)).1, e]
                    omega
                  · have e := Sp.look_ok H.out.inv.right hin HNq.out (by rw [HOw.out]; exact h4)
                    rw [(Sp.keep_old (y := 0) (n := 0) (g := 0) e (Sp.look_old e (by rw [HOw.out]; show (s : Int) = la k; omega)).1).1]
                    omega)
                clear ho hin h3
                go_wp2_with fail
                refine (ses_keep l (k : Int) (s : Int) ⟨0, z.n, 0⟩ lo p lc wz H.out.ls HKf.out HSf.out ⟨fit_lit rfl, HZs.out.2.2.2, fit_lit rfl⟩).mono ?_
                rintro e w3 ⟨v, rfl, o, b3⟩
                obtain ⟨E, hE⟩ : ∃ E, Sp.keepE l (k : Int) (s : Int) = E := ⟨_, rfl⟩
                have qe : (E == 0) = false := beq_eq_false_iff_ne.2 (by rw [← hE]; exact HE.out)
                rw [hE]
                have H3 := Lib.hid (H.out.below b3)
                have a6 := H3.out.a6.cell hk2'
                rw [HOp.out] at a6
                have a4 := H3.out.a4.cell hk2'
                clear o b3 hE H c0 c1 c2 c3
                go_wp2_with fail
                clear a4 a6
                go_meet
                exact ⟨lo, p, lc, l, la, re, op, rfl, H3⟩
      case rest =>
        clear H a6 c0 c1 c2 c3 hlf hlr HP8
        obtain ⟨lo, p, lc, l, la, re, op, rfl, H⟩ := hcut
        rename World => wn
        have hlf := H.out.ls.fits
        have hlr := H.out.ls.reach
        go_wp2_with fail
        refine (ses_right l lo p lc wn _ (Below.refl _ _) H.out.ls).mono ?_
        rintro e w5 ⟨rfl, b5⟩
        rw [H.out.inv.right]
        have H5 := Lib.hid (H.out.below b5)
        clear b5 H
        have a6 := H5.out.a6.cell hk2'
        cases ho : op k
        · rw [ho] at a6
          clear ho
          go_wp2_with fail
          go_roundw
          case rel => exact ⟨j + 1, lo, p, lc, l, la, re, op, by omega, by go_num, rfl, H5⟩
          case measure => simp [intOf]; omega
        · rw [ho] at a6
          have a4 := H5.out.a4.cell hk2'
          have HOw := Lib.hid (H5.out.inv.own k hk1' hk2' ho)
          have HLo := Lib.hid (H5.out.inv.low k hk1' hk2' ho)
          have HLk : Hid (0 < la k → Sp.lookE l (k : Int) (la k) = 0) := Lib.hid (fun h => H5.out.inv.look hk1' hk2' ho ⟨by omega, HLo.out.2⟩ (Int.le_refl _))
          clear ho
          obtain ⟨m, hm⟩ : ∃ m, la k = m := ⟨_, rfl⟩
          obtain ⟨y, hy⟩ : ∃ y, re k = y := ⟨_, rfl⟩
          have a5 := H5.out.a5.cell hk2'
          try simp only at a4 a5
          rw [hm] at a4 HOw HLo HLk
          rw [hy] at a5 HOw
          have HMY := Lib.hid (And.intro hm hy)
          clear hm hy
          by_cases h0 : 0 < m
          · have d0 : decide (0 < m) = true := decide_eq_true h0
            have HE := Lib.hid (HLk.out h0)
            have HO := Lib.hid (Sp.look_old HE.out (by rw [HOw.out]))
            have HMf : Hid (Fit m) := Lib.hid ⟨by omega, by have := HLo.out; omega⟩
            have HRp : Hid (Sp.rep (Sp.lookT l (k : Int) m) = ⟨0, y, 0⟩) := Lib.hid (by rw [HO.out.2, HOw.out]; rfl)
            clear h0
            go_wp2_with fail
            refine (ses_look l (k : Int) m lo p lc w5 _ (Below.refl _ _) H5.out.ls HKf.out HMf.out).mono ?_
            rintro e w6 ⟨rfl, b6⟩
            rw [HE.out, HO.out.1, HRp.out]
            obtain ⟨V, hV, hbV, hCV⟩ := Rp.boxed1 w6 ⟨0, y, 0⟩
            simp only at hV
            have HV := Lib.hid hV
            have H7 := Lib.hid ((H5.out.below b6).below hbV)
            unfold Rp.C at hCV
            obtain ⟨v0, v1, v2⟩ := hCV
            simp only at v0 v1 v2
            have x5 := H7.out.a5.cell hk2'
            try simp only at x5
            rw [HMY.out.2] at x5
            have k0 := cell_regrown v0
            have k1 := cell_regrown v1
            have k2 := cell_regrown v2
            have k5 := cell_regrown x5
            have t1 : (y == y) = true := beq_self_eq_true _
            unfold Rp.val
            simp only
            clear b6 hbV hV a4 a5 a6 v0 v1 v2 x5 H5
            go_wp2_with fail
            rw [HV.out]
            clear HV
            refine wp_region_quiet_below (by kernel_rfl) (by kernel_rfl) ?_
            repeat (first | go_big_quiet_step (fail) | quiet_step (fail))
            refine wpQuiet_nil ?_
            intro _ hw'
            obtain ⟨⟨dq, osq⟩, hw''⟩ := hw'
            subst hw''
            have H8 := Lib.hid (H7.out.below (below_regrown V dq osq))
            go_wp2_with fail
            go_roundw
            case rel => exact ⟨j + 1, lo, p, lc, l, la, re, op, by omega, by go_num, rfl, H8⟩
            case measure => simp [intOf]; omega
          · have d0 : decide (0 < m) = false := decide_eq_false h0
            clear h0
            go_wp2_with fail
            go_roundw
            case rel => exact ⟨j + 1, lo, p, lc, l, la, re, op, by omega, by go_num, rfl, H5⟩
            case measure => simp [intOf]; omega
    · have hcs : ¬ j < n ∨ (j < n ∧ ¬ j < 200) := by omega
      clear hlt
      have HBf := Lib.hid H.out.bel
      rcases hcs with hcs | ⟨hcs1, hcs2⟩
      all_goals
        go_wp2_with fail
        refine (snruns w _ HBf.out).mono ?_
        rintro e w7 ⟨rfl, b7⟩
        have HB7 := Lib.hid b7
        clear b7
        go_wp2_with fail
        go_ret
        exact ⟨rfl, HB7.out⟩
end Go.Proofs.Ytfilanbjfnnknaa
