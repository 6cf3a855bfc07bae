/- THE WALK OF KindRuns. -/
import Derived.Test.YtfmfeagfinnmmabKdU
import Derived.Test.YtfmfeagfinnmmabKdS
import Derived.Test.YtfmfeagfinnmmabKt2
import Derived.Test.YtfmfeagfinnmmabCaught
import Derived.Test.YtfmfeagfinnmmabVlM
namespace Go.Proofs.Ytfmfeagfinnmmab
open Go.RowKit
open Go.Sort (grow)
open Vl (T)
open Mem Tg

theorem lit_ls (u : World) (ts : List T) (hs : ∀ r ∈ ts, Vl.Short r) (hl : ts.length ≤ 1000) : Vl.Ls (u.alloc (.cells (ts.flatMap Vl.rv).toArray 41)) (some ⟨u.heap.size, 0, none⟩) ts.length ts.length ts := by
  have hb : Vl.Block (u.alloc (.cells (ts.flatMap Vl.rv).toArray 41)) u.heap.size (ts ++ []) := by
    rw [List.append_nil]
    exact heap_alloc_new u _
  exact hb.ls _ _ rfl (Nat.le_refl _) (by omega) hs
theorem of_ok {l : List T} {w w' : World} {e : Ending} {t : Th} (h : ofP l w e w') (hl : l = t.flat) (hf : t.fits 0 0) : ∃ v, e = .returned (.tuple #[tv v, .int .i64 0]) ∧ Is (fun b => w.heap.size ≤ b) w' t v := by
  obtain ⟨h0, h1⟩ := Th.ofE_flat hf
  rw [← hl] at h0 h1
  rcases h with ⟨_, t', v, h2, h3, h4⟩ | ⟨h2, _⟩
  · rw [h1] at h2
    injection h2 with h2
    injection h2 with h2
    subst h2
    exact ⟨v, h3, h4⟩
  · exact absurd h0 h2
theorem of_no {l : List T} {w w' : World} {e : Ending} {k : Int} (h : ofP l w e w') (hk : Kd.ofE l = k) (h0 : k ≠ 0) : e = .returned (.tuple #[.agg #[.nilIface], .int .i64 k]) := by
  rcases h with ⟨h1, _⟩ | ⟨_, h1⟩
  · omega
  · rw [h1, hk]
    rfl
theorem same_yes {A A' : Nat → Prop} (a : Th) (u v : Value) (w0 w : World) (hw : Below w0.heap.size w0 w) (ha : Is A w a u) (hb : Is A' w a v) (hf : a.fits 0 0) :
    Calls Try.prog 13 #[tv u, tv v] w fun e w' => e = .returned (.bool true) ∧ Below w0.heap.size w0 w' :=
  (kind_same a a u v w0 w hw ha hb).mono fun e w' ⟨⟨B, he, hB⟩, hb⟩ => ⟨by rw [he, hB.2 ⟨hf, hf, rfl⟩], hb⟩
def aTxt : ByteArray := ⟨#[97]⟩
theorem sa_size : aTxt.size ≤ 140737488355328 := by decide
theorem fit5 : Fit 5 := ⟨by omega, by omega⟩
theorem fit7 : Fit 7 := ⟨by omega, by omega⟩
theorem runs_five (u : World) (i : Nat) (os : Array Obj) : Ans 14 #[.int .i64 5] u i os (.agg #[.iface 64 (.int .i64 5)]) :=
  Calls.regrown_of (from_int 5 _ _ (Below.refl _ _))
theorem runs_a (u : World) (i : Nat) (os : Array Obj) : Ans 8 #[.string ⟨#[97]⟩] u i os (.agg #[.iface 60 (.string ⟨#[97]⟩)]) :=
  Calls.regrown_of (from_text ⟨#[97]⟩ _ _ (Below.refl _ _))
theorem runs_same5 (u : World) (i : Nat) (os : Array Obj) : Ans 13 #[.agg #[.iface 64 (.int .i64 5)], .agg #[.iface 64 (.int .i64 5)]] u i os (.bool true) :=
  Calls.regrown_of (same_yes (A := fun _ => True) (A' := fun _ => True) (.num 5) _ _ _ _ (Below.refl _ _) (.num fit5) (.num fit5) (by simp [Th.fits, Th.okD, Th.flat]))
theorem runs_samea (u : World) (i : Nat) (os : Array Obj) : Ans 13 #[.agg #[.iface 60 (.string ⟨#[97]⟩)], .agg #[.iface 60 (.string ⟨#[97]⟩)]] u i os (.bool true) :=
  Calls.regrown_of (same_yes (A := fun _ => True) (A' := fun _ => True) (.text aTxt) _ _ _ _ (Below.refl _ _) (.text sa_size) (.text sa_size) (by simp [Th.fits, Th.okD, Th.flat]))
/-- the chapter's lists of values -/
def L1 : List T := [⟨5, 2, .empty, 0, 0, 0⟩, ⟨1, 5, .empty, 0, 0, 0⟩, ⟨2, 0, aTxt, 0, 0, 0⟩]
def L2 : List T := [⟨5, 2, .empty, 0, 0, 0⟩, ⟨1, 5, .empty, 0, 0, 0⟩]
def L3 : List T := [⟨1, 5, .empty, 0, 0, 0⟩, ⟨0, 0, .empty, 0, 0, 0⟩]
def L4 : List T := [⟨3, 2, .empty, 0, 0, 0⟩]
def T1 : Th := .list [.num 5, .text aTxt]
theorem L1_flat : L1 = T1.flat := by simp [L1, T1, Th.flat, Th.flats]
theorem T1_fits : T1.fits 0 0 := by simp [T1, Th.fits, Th.okD, Th.okDs, Th.flat, Th.flats]
theorem L2_of : Kd.ofE L2 = 3 := by decide +kernel
theorem L3_of : Kd.ofE L3 = 5 := by decide +kernel
theorem L4_of : Kd.ofE L4 = 1 := by decide +kernel
theorem short_of {l : List T} (h : (l.all fun r => decide (-9223372036854775808 ≤ r.kind ∧ r.kind ≤ 9223372036854775807) && decide (-9223372036854775808 ≤ r.n ∧ r.n ≤ 9223372036854775807) && decide (r.text.size ≤ 140737488355328) && decide (-9223372036854775808 ≤ r.y ∧ r.y ≤ 9223372036854775807) && decide (-9223372036854775808 ≤ r.m ∧ r.m ≤ 9223372036854775807) && decide (-9223372036854775808 ≤ r.d ∧ r.d ≤ 9223372036854775807)) = true) : ∀ r ∈ l, Vl.Short r := by
  intro r hr
  have h := List.all_eq_true.1 h r hr
  simp only [Bool.and_eq_true, decide_eq_true_eq] at h
  obtain ⟨⟨⟨⟨⟨a, b⟩, c⟩, d⟩, e⟩, f⟩ := h
  exact ⟨a, b, c, d, e, f⟩
theorem L1_short : ∀ r ∈ L1, Vl.Short r := short_of (by decide +kernel)
theorem L2_short : ∀ r ∈ L2, Vl.Short r := short_of (by decide +kernel)
theorem L3_short : ∀ r ∈ L3, Vl.Short r := short_of (by decide +kernel)
theorem L4_short : ∀ r ∈ L4, Vl.Short r := short_of (by decide +kernel)
theorem TwoAt.below {u v : World} {p q : Nat} {a c : Int} {b : Bool} (h : TwoAt u p q a c b) (k : Below u.heap.size u v) : TwoAt v p q a c b := by
  have hp := cell_lt h.c0
  have hq := cell_lt h.c2
  exact ⟨by rw [(bcell k).1 _ _ hp]; exact h.c0, by rw [(bcell k).1 _ _ hp]; exact h.c1, by rw [(bcell k).1 _ _ hq]; exact h.c2, fun o => by rw [(bcell k).2 _ _ hp]; exact h.f0 o, by rw [(bcell k).2 _ _ hq]; exact h.f1⟩
theorem twoW_at (w : World) : TwoAt (twoW w) w.heap.size (w.heap.size + 1) 0 0 false := by
  unfold twoW
  refine ⟨?_, ?_, ?_, fun o => ?_, ?_⟩ <;> simp [go_sem]
theorem twoW_below (w : World) : Below w.heap.size w (twoW w) := ((Below.refl _ _).alloc (Nat.le_refl _) _).alloc (by simp) _
/-- what KindRuns' closure does: it panics -/
theorem runs_closure (w0 w : World) (hw : Below w0.heap.size w0 w) : Calls Try.prog 17 #[] w fun e w' => e = wrong 1 2 ∧ Below w0.heap.size w0 w' := by
  have HW := Lib.hid hw
  clear hw
  go_enter Try.func17, Try.ntmps17
  go_wp2_with fail
  refine (from_text ⟨#[97]⟩ w0 _ HW.out).mono ?_
  rintro e w1 ⟨rfl, b1⟩
  have HB1 := Lib.hid b1
  clear b1
  unfold tv
  go_wp2_with fail
  refine (kind_mustint (A := fun _ => True) (.text aTxt) _ w0 _ HB1.out (.text sa_size) (by simp [Th.kind])).mono ?_
  rintro e w2 ⟨rfl, b2⟩
  have HB2 := Lib.hid b2
  clear b2
  unfold wrong
  go_wp2_with fail
  exact ⟨rfl, rfl, HB2.out⟩
theorem runs_caught (w0 w : World) (hw : Below w0.heap.size w0 w) : Calls Try.prog 16 #[.func (.func 17) #[] #[]] w fun e w' => e = .returned (.tuple #[.agg #[.int .i64 1, .int .i64 2], .bool true]) ∧ Below w0.heap.size w0 w' := by
  refine (caught_hit 17 1 2 #[] w (fun u => Below w.heap.size w u) (fun _ _ => rfl) ((runs_closure (twoW w) (twoW w) (Below.refl _ _)).mono ?_)).mono ?_
  · rintro e u ⟨rfl, b⟩
    exact ⟨rfl, bchain (twoW_below w) b, (twoW_at w).below b⟩
  · rintro e w' ⟨rfl, u, hu, b⟩
    exact ⟨rfl, bchain hw (hu.trans b)⟩
end Go.Proofs.Ytfmfeagfinnmmab
