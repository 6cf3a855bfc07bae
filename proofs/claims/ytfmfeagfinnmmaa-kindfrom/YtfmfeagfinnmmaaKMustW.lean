/- THE WALK OF impostlaw8's must. (By genmustw.py.) -/
import Derived.Test.YtfmfeagfinnmmaaKMust
namespace Go.Proofs.Ytfmfeagfinnmmaa
open Go.RowKit
open Go.Sort (grow)
open Vl (T)
open Mem Tg

theorem asInt_no {t : Th} (h : t.kind ≠ 1) : asInt t = .returned (.tuple #[.int .i64 0, .bool false]) := by
  cases t <;> first | rfl | exact absurd rfl h
theorem asText_no {t : Th} (h : t.kind ≠ 2) : asText t = .returned (.tuple #[.string .empty, .bool false]) := by
  cases t <;> first | rfl | exact absurd rfl h
theorem asFlag_no {t : Th} (h : t.kind ≠ 3) : asFlag t = .returned (.tuple #[.bool false, .bool false]) := by
  cases t <;> first | rfl | exact absurd rfl h
theorem asDate_no {t : Th} (h : t.kind ≠ 4) : asDate t = .returned (.tuple #[.agg #[.int .i64 0, .int .i64 0, .int .i64 0], .bool false]) := by
  cases t <;> first | rfl | exact absurd rfl h
theorem keepC {u v : World} {b o : Nat} {x : Value} (h : u.cell? ⟨b, o, none⟩ = some x) (k : Below u.heap.size u v) : v.cell? ⟨b, o, none⟩ = some x := by
  rw [(bcell k).1 _ _ (cell_lt h)]
  exact h
theorem keepF {u v : World} {b o p : Nat} {x : Value} (h : u.cell? ⟨b, p, none⟩ = some x) (k : Below u.heap.size u v) (f : u.frozen? ⟨b, o, none⟩ = false) : v.frozen? ⟨b, o, none⟩ = false := by
  rw [(bcell k).2 _ _ (cell_lt h)]
  exact f
theorem Upd.keepC {u v : World} {p b o : Nat} {x : Value} (k : Upd u p v) (h : u.cell? ⟨b, o, none⟩ = some x) (hp : b ≠ p) : v.cell? ⟨b, o, none⟩ = some x := by
  rw [k.cell _ _ (cell_lt h) hp]
  exact h
theorem Upd.keepF {u v : World} {p b o q : Nat} {x : Value} (k : Upd u p v) (h : u.cell? ⟨b, q, none⟩ = some x) (f : u.frozen? ⟨b, o, none⟩ = false) : v.frozen? ⟨b, o, none⟩ = false := by
  rw [k.frozen _ _ (cell_lt h)]
  exact f
theorem below_alloc (u : World) (o : Obj) : Below u.heap.size u (u.alloc o) := (Below.refl _ _).alloc (Nat.le_refl _) o
theorem set2_keep {u : World} {r b o : Nat} {x a c : Value} (h : u.cell? ⟨b, o, none⟩ = some x) (_ : b ≠ r) : ((u.setCell ⟨r, 0, none⟩ a).setCell ⟨r, 1, none⟩ c).cell? ⟨b, o, none⟩ = some x := by
  simp [go_sem, h]
theorem set2_0 {u : World} {r : Nat} {x y a c : Value} (h0 : u.cell? ⟨r, 0, none⟩ = some x) (_ : u.cell? ⟨r, 1, none⟩ = some y) : ((u.setCell ⟨r, 0, none⟩ a).setCell ⟨r, 1, none⟩ c).cell? ⟨r, 0, none⟩ = some a := by
  simp [go_sem, h0]
theorem set2_1 {u : World} {r : Nat} {x y a c : Value} (_ : u.cell? ⟨r, 0, none⟩ = some x) (h1 : u.cell? ⟨r, 1, none⟩ = some y) : ((u.setCell ⟨r, 0, none⟩ a).setCell ⟨r, 1, none⟩ c).cell? ⟨r, 1, none⟩ = some c := by
  simp [go_sem, h1]
theorem set2_f {u : World} {r b o : Nat} {a c : Value} (h : u.frozen? ⟨b, o, none⟩ = false) : ((u.setCell ⟨r, 0, none⟩ a).setCell ⟨r, 1, none⟩ c).frozen? ⟨b, o, none⟩ = false := by
  simp [go_sem, h]

set_option maxHeartbeats 4000000 in
theorem mustw_num (n : Int) (hf : Fit n) (w : World) :
    Calls Try.prog 28 #[.agg #[(.iface 73 (.int .i64 n))], .int .i64 (1)] w fun e w' => e = .returned (.bool true) ∧ Below w.heap.size w w' := by
  have hmf : ∀ (fn : Fn) (first cap : Array Value) (w : World), (Instr.makeFunc fn first cap).run Try.prog w = .ok (.func fn first cap) w := fun _ _ _ _ => rfl
  have ne : (n == n) = true := beq_self_eq_true _
  have nm : (n != n) = false := bne_self_eq_false _
  have HB1 : Hid (Below w.heap.size w ((w.alloc (.cells #[(.iface 73 (.int .i64 n))] 25)).alloc (.cells #[.int .i64 0] 3))) := Lib.hid (((Below.refl _ _).alloc (Nat.le_refl _) _).alloc (by simp) _)
  have HcP1 : Hid (((w.alloc (.cells #[(.iface 73 (.int .i64 n))] 25)).alloc (.cells #[.int .i64 0] 3)).cell? ⟨w.heap.size, 0, none⟩ = some (.iface 73 (.int .i64 n))) := Lib.hid (by simp [go_sem])
  have HcQ1 : Hid (((w.alloc (.cells #[(.iface 73 (.int .i64 n))] 25)).alloc (.cells #[.int .i64 0] 3)).cell? ⟨w.heap.size + 1, 0, none⟩ = some (.int .i64 0)) := Lib.hid (by simp [go_sem])
  have HfQ1 : Hid (∀ o, ((w.alloc (.cells #[(.iface 73 (.int .i64 n))] 25)).alloc (.cells #[.int .i64 0] 3)).frozen? ⟨w.heap.size + 1, o, none⟩ = false) := Lib.hid (fun o => by simp [go_sem])
  have Hs1 : Hid (((w.alloc (.cells #[(.iface 73 (.int .i64 n))] 25)).alloc (.cells #[.int .i64 0] 3)).heap.size = w.heap.size + 2) := Lib.hid (by simp)
  go_enter Try.func28, Try.ntmps28
  go_wp2_with fail
  refine (caught1_ok n hf w.heap.size (w.heap.size + 1) ((w.alloc (.cells #[(.iface 73 (.int .i64 n))] 25)).alloc (.cells #[.int .i64 0] 3)) HcP1.out HcQ1.out HfQ1.out).mono ?_
  rintro e w2 ⟨rfl, hU2, hc2⟩
  have HU2 := Lib.hid hU2
  have HcQ2 : Hid (w2.cell? ⟨w.heap.size + 1, 0, none⟩ = some (.int .i64 n)) := Lib.hid hc2
  clear hU2 hc2
  have Hs2 : Hid (w.heap.size + 2 ≤ w2.heap.size) := Lib.hid (by have := HU2.out.size; have := Hs1.out; omega)
  have HB3 : Hid (Below w.heap.size w (w2.alloc (.cells #[.int .i64 0, .int .i64 0] 43))) := Lib.hid (bchain (HU2.out.below w HB1.out (by omega)) (below_alloc _ _))
  have cP3 : (w2.alloc (.cells #[.int .i64 0, .int .i64 0] 43)).cell? ⟨w.heap.size, 0, none⟩ = some (.iface 73 (.int .i64 n)) := keepC (HU2.out.keepC HcP1.out (by omega)) (below_alloc _ _)
  have HcP3 := Lib.hid cP3
  have HcQ3 : Hid ((w2.alloc (.cells #[.int .i64 0, .int .i64 0] 43)).cell? ⟨w.heap.size + 1, 0, none⟩ = some (.int .i64 n)) := Lib.hid (keepC HcQ2.out (below_alloc _ _))
  have HcR3 : Hid ((w2.alloc (.cells #[.int .i64 0, .int .i64 0] 43)).cell? ⟨w2.heap.size, 0, none⟩ = some (.int .i64 0)) := Lib.hid (by simp [go_sem])
  have HdR3 : Hid ((w2.alloc (.cells #[.int .i64 0, .int .i64 0] 43)).cell? ⟨w2.heap.size, 1, none⟩ = some (.int .i64 0)) := Lib.hid (by simp [go_sem])
  have HfR3 : Hid (∀ o, (w2.alloc (.cells #[.int .i64 0, .int .i64 0] 43)).frozen? ⟨w2.heap.size, o, none⟩ = false) := Lib.hid (fun o => by simp [go_sem])
  have Hs3 : Hid ((w2.alloc (.cells #[.int .i64 0, .int .i64 0] 43)).heap.size = w2.heap.size + 1) := Lib.hid (by simp)
  go_wp2_with fail
  refine (kind_int (A := fun _ => True) (.num n) (.iface 73 (.int .i64 n)) (w2.alloc (.cells #[.int .i64 0, .int .i64 0] 43)) _ (Below.refl _ _) (.num hf)).mono ?_
  rintro e w4 ⟨rfl, b4⟩
  unfold asInt
  have HB4 := Lib.hid (bchain HB3.out b4)
  have HcP4 : Hid (w4.cell? ⟨w.heap.size, 0, none⟩ = some (.iface 73 (.int .i64 n))) := Lib.hid (keepC HcP3.out b4)
  have cQ4 := keepC HcQ3.out b4
  have cR4 := keepC HcR3.out b4
  have dR4 := keepC HdR3.out b4
  have HcR4 := Lib.hid cR4
  have HdR4 := Lib.hid dR4
  have HfR4 : Hid (∀ o, w4.frozen? ⟨w2.heap.size, o, none⟩ = false) := Lib.hid (fun o => keepF HcR3.out b4 (HfR3.out o))
  have Hs4 : Hid (w2.heap.size + 1 ≤ w4.heap.size) := Lib.hid (by have := b4.size; have := Hs3.out; omega)
  clear b4 cP3
  have HB5 : Hid (Below w.heap.size w (w4.alloc (.cells #[.string ⟨#[]⟩] 9))) := Lib.hid (bchain HB4.out (below_alloc _ _))
  have HcP5 : Hid ((w4.alloc (.cells #[.string ⟨#[]⟩] 9)).cell? ⟨w.heap.size, 0, none⟩ = some (.iface 73 (.int .i64 n))) := Lib.hid (keepC HcP4.out (below_alloc _ _))
  have HcS5 : Hid ((w4.alloc (.cells #[.string ⟨#[]⟩] 9)).cell? ⟨w4.heap.size, 0, none⟩ = some (.string ⟨#[]⟩)) := Lib.hid (by simp [go_sem])
  have HfS5 : Hid (∀ o, (w4.alloc (.cells #[.string ⟨#[]⟩] 9)).frozen? ⟨w4.heap.size, o, none⟩ = false) := Lib.hid (fun o => by simp [go_sem])
  have Hs5 : Hid ((w4.alloc (.cells #[.string ⟨#[]⟩] 9)).heap.size = w4.heap.size + 1) := Lib.hid (by simp)
  go_wp2_with fail
  refine (caught2_no (A := fun _ => True) (.num n) (.iface 73 (.int .i64 n)) w.heap.size w4.heap.size (w4.alloc (.cells #[.string ⟨#[]⟩] 9)) HcP5.out (.num hf) (by simp [Th.kind])).mono ?_
  rintro e w6 ⟨rfl, b6⟩
  have HU6 := Lib.hid (Upd.of w4.heap.size b6)
  have HcS6 : Hid (w6.cell? ⟨w4.heap.size, 0, none⟩ = some (.string ⟨#[]⟩)) := Lib.hid (keepC HcS5.out b6)
  clear b6
  simp only [Th.kind]
  have cR6 : w6.cell? ⟨w2.heap.size, 0, none⟩ = some (.int .i64 0) := HU6.out.keepC (keepC HcR4.out (below_alloc _ _)) (by have := Hs4.out; omega)
  have dR6 : w6.cell? ⟨w2.heap.size, 1, none⟩ = some (.int .i64 0) := HU6.out.keepC (keepC HdR4.out (below_alloc _ _)) (by have := Hs4.out; omega)
  have fR6 : ∀ o, w6.frozen? ⟨w2.heap.size, o, none⟩ = false := fun o => HU6.out.keepF (keepC HcR4.out (below_alloc _ _)) (keepF HcR4.out (below_alloc _ _) (HfR4.out o))
  have HB7 : Hid (Below w.heap.size w ((w6.setCell ⟨w2.heap.size, 0, none⟩ (.int .i64 2)).setCell ⟨w2.heap.size, 1, none⟩ (.int .i64 1))) := Lib.hid (((HU6.out.below w HB5.out (by have := Hs4.out; have := Hs2.out; omega)).setCell (p := ⟨w2.heap.size, 0, none⟩) (by have := Hs2.out; simp; omega) _).setCell (p := ⟨w2.heap.size, 1, none⟩) (by have := Hs2.out; simp; omega) _)
  have cP7 : ((w6.setCell ⟨w2.heap.size, 0, none⟩ (.int .i64 2)).setCell ⟨w2.heap.size, 1, none⟩ (.int .i64 1)).cell? ⟨w.heap.size, 0, none⟩ = some (.iface 73 (.int .i64 n)) := set2_keep (HU6.out.keepC HcP5.out (by have := Hs4.out; have := Hs2.out; omega)) (by have := Hs2.out; omega)
  have HcP7 := Lib.hid cP7
  have HcS7 : Hid (((w6.setCell ⟨w2.heap.size, 0, none⟩ (.int .i64 2)).setCell ⟨w2.heap.size, 1, none⟩ (.int .i64 1)).cell? ⟨w4.heap.size, 0, none⟩ = some (.string ⟨#[]⟩)) := Lib.hid (set2_keep HcS6.out (by have := Hs4.out; omega))
  have HcR7 : Hid (((w6.setCell ⟨w2.heap.size, 0, none⟩ (.int .i64 2)).setCell ⟨w2.heap.size, 1, none⟩ (.int .i64 1)).cell? ⟨w2.heap.size, 0, none⟩ = some (.int .i64 2)) := Lib.hid (set2_0 cR6 dR6)
  have HdR7 : Hid (((w6.setCell ⟨w2.heap.size, 0, none⟩ (.int .i64 2)).setCell ⟨w2.heap.size, 1, none⟩ (.int .i64 1)).cell? ⟨w2.heap.size, 1, none⟩ = some (.int .i64 1)) := Lib.hid (set2_1 cR6 dR6)
  have HfR7 : Hid (∀ o, ((w6.setCell ⟨w2.heap.size, 0, none⟩ (.int .i64 2)).setCell ⟨w2.heap.size, 1, none⟩ (.int .i64 1)).frozen? ⟨w2.heap.size, o, none⟩ = false) := Lib.hid (fun o => set2_f (fR6 o))
  have Hs6 : Hid (w4.heap.size + 1 ≤ w6.heap.size) := Lib.hid (by have := HU6.out.size; have := Hs5.out; omega)
  have Hs7 : Hid (((w6.setCell ⟨w2.heap.size, 0, none⟩ (.int .i64 2)).setCell ⟨w2.heap.size, 1, none⟩ (.int .i64 1)).heap.size = w6.heap.size) := Lib.hid (by simp)
  go_wp2_with fail
  refine (kind_text (A := fun _ => True) (.num n) (.iface 73 (.int .i64 n)) ((w6.setCell ⟨w2.heap.size, 0, none⟩ (.int .i64 2)).setCell ⟨w2.heap.size, 1, none⟩ (.int .i64 1)) _ (Below.refl _ _) (.num hf)).mono ?_
  rintro e w8 ⟨rfl, b8⟩
  unfold asText
  have HB8 := Lib.hid (bchain HB7.out b8)
  have HcP8 : Hid (w8.cell? ⟨w.heap.size, 0, none⟩ = some (.iface 73 (.int .i64 n))) := Lib.hid (keepC HcP7.out b8)
  have cS8 := keepC HcS7.out b8
  have cR8 := keepC HcR7.out b8
  have dR8 := keepC HdR7.out b8
  have HcR8 := Lib.hid cR8
  have HdR8 := Lib.hid dR8
  have HfR8 : Hid (∀ o, w8.frozen? ⟨w2.heap.size, o, none⟩ = false) := Lib.hid (fun o => keepF HcR7.out b8 (HfR7.out o))
  have Hs8 : Hid (w6.heap.size ≤ w8.heap.size) := Lib.hid (by have := b8.size; have := Hs7.out; omega)
  clear b8 cP7 cR6 dR6 fR6 cQ4 cR4 dR4
  have HB9 : Hid (Below w.heap.size w (w8.alloc (.cells #[.int .i64 0, .int .i64 0, .int .i64 0] 30))) := Lib.hid (bchain HB8.out (below_alloc _ _))
  have HcP9 : Hid ((w8.alloc (.cells #[.int .i64 0, .int .i64 0, .int .i64 0] 30)).cell? ⟨w.heap.size, 0, none⟩ = some (.iface 73 (.int .i64 n))) := Lib.hid (keepC HcP8.out (below_alloc _ _))
  have Hc0D9 : Hid ((w8.alloc (.cells #[.int .i64 0, .int .i64 0, .int .i64 0] 30)).cell? ⟨w8.heap.size, 0, none⟩ = some (.int .i64 0)) := Lib.hid (by simp [go_sem])
  have Hc1D9 : Hid ((w8.alloc (.cells #[.int .i64 0, .int .i64 0, .int .i64 0] 30)).cell? ⟨w8.heap.size, 1, none⟩ = some (.int .i64 0)) := Lib.hid (by simp [go_sem])
  have Hc2D9 : Hid ((w8.alloc (.cells #[.int .i64 0, .int .i64 0, .int .i64 0] 30)).cell? ⟨w8.heap.size, 2, none⟩ = some (.int .i64 0)) := Lib.hid (by simp [go_sem])
  have HfD9 : Hid (∀ o, (w8.alloc (.cells #[.int .i64 0, .int .i64 0, .int .i64 0] 30)).frozen? ⟨w8.heap.size, o, none⟩ = false) := Lib.hid (fun o => by simp [go_sem])
  have Hs9 : Hid ((w8.alloc (.cells #[.int .i64 0, .int .i64 0, .int .i64 0] 30)).heap.size = w8.heap.size + 1) := Lib.hid (by simp)
  go_wp2_with fail
  refine (caught3_no (A := fun _ => True) (.num n) (.iface 73 (.int .i64 n)) w.heap.size w8.heap.size (w8.alloc (.cells #[.int .i64 0, .int .i64 0, .int .i64 0] 30)) HcP9.out (.num hf) (by simp [Th.kind])).mono ?_
  rintro e w10 ⟨rfl, b10⟩
  have HU10 := Lib.hid (Upd.of w8.heap.size b10)
  have Hc0D10 : Hid (w10.cell? ⟨w8.heap.size, 0, none⟩ = some (.int .i64 0)) := Lib.hid (keepC Hc0D9.out b10)
  have Hc1D10 : Hid (w10.cell? ⟨w8.heap.size, 1, none⟩ = some (.int .i64 0)) := Lib.hid (keepC Hc1D9.out b10)
  have Hc2D10 : Hid (w10.cell? ⟨w8.heap.size, 2, none⟩ = some (.int .i64 0)) := Lib.hid (keepC Hc2D9.out b10)
  clear b10
  simp only [Th.kind]
  have hne : w2.heap.size ≠ w8.heap.size := by have := Hs4.out; have := Hs6.out; have := Hs8.out; omega
  have cR10 : w10.cell? ⟨w2.heap.size, 0, none⟩ = some (.int .i64 2) := HU10.out.keepC (keepC HcR8.out (below_alloc _ _)) hne
  have dR10 : w10.cell? ⟨w2.heap.size, 1, none⟩ = some (.int .i64 1) := HU10.out.keepC (keepC HdR8.out (below_alloc _ _)) hne
  have fR10 : ∀ o, w10.frozen? ⟨w2.heap.size, o, none⟩ = false := fun o => HU10.out.keepF (keepC HcR8.out (below_alloc _ _)) (keepF HcR8.out (below_alloc _ _) (HfR8.out o))
  have HB11 : Hid (Below w.heap.size w ((w10.setCell ⟨w2.heap.size, 0, none⟩ (.int .i64 4)).setCell ⟨w2.heap.size, 1, none⟩ (.int .i64 1))) := Lib.hid (((HU10.out.below w HB9.out (by have := Hs2.out; have := Hs4.out; have := Hs6.out; have := Hs8.out; omega)).setCell (p := ⟨w2.heap.size, 0, none⟩) (by have := Hs2.out; simp; omega) _).setCell (p := ⟨w2.heap.size, 1, none⟩) (by have := Hs2.out; simp; omega) _)
  have cP11 : ((w10.setCell ⟨w2.heap.size, 0, none⟩ (.int .i64 4)).setCell ⟨w2.heap.size, 1, none⟩ (.int .i64 1)).cell? ⟨w.heap.size, 0, none⟩ = some (.iface 73 (.int .i64 n)) := set2_keep (HU10.out.keepC HcP9.out (by have := Hs2.out; have := Hs4.out; have := Hs6.out; have := Hs8.out; omega)) (by have := Hs2.out; omega)
  have Hc0D11 : Hid (((w10.setCell ⟨w2.heap.size, 0, none⟩ (.int .i64 4)).setCell ⟨w2.heap.size, 1, none⟩ (.int .i64 1)).cell? ⟨w8.heap.size, 0, none⟩ = some (.int .i64 0)) := Lib.hid (set2_keep Hc0D10.out (fun h => hne h.symm))
  have Hc1D11 : Hid (((w10.setCell ⟨w2.heap.size, 0, none⟩ (.int .i64 4)).setCell ⟨w2.heap.size, 1, none⟩ (.int .i64 1)).cell? ⟨w8.heap.size, 1, none⟩ = some (.int .i64 0)) := Lib.hid (set2_keep Hc1D10.out (fun h => hne h.symm))
  have Hc2D11 : Hid (((w10.setCell ⟨w2.heap.size, 0, none⟩ (.int .i64 4)).setCell ⟨w2.heap.size, 1, none⟩ (.int .i64 1)).cell? ⟨w8.heap.size, 2, none⟩ = some (.int .i64 0)) := Lib.hid (set2_keep Hc2D10.out (fun h => hne h.symm))
  have HcR11 : Hid (((w10.setCell ⟨w2.heap.size, 0, none⟩ (.int .i64 4)).setCell ⟨w2.heap.size, 1, none⟩ (.int .i64 1)).cell? ⟨w2.heap.size, 0, none⟩ = some (.int .i64 4)) := Lib.hid (set2_0 cR10 dR10)
  have HdR11 : Hid (((w10.setCell ⟨w2.heap.size, 0, none⟩ (.int .i64 4)).setCell ⟨w2.heap.size, 1, none⟩ (.int .i64 1)).cell? ⟨w2.heap.size, 1, none⟩ = some (.int .i64 1)) := Lib.hid (set2_1 cR10 dR10)
  clear hne
  go_wp2_with fail
  refine (kind_date (A := fun _ => True) (.num n) (.iface 73 (.int .i64 n)) ((w10.setCell ⟨w2.heap.size, 0, none⟩ (.int .i64 4)).setCell ⟨w2.heap.size, 1, none⟩ (.int .i64 1)) _ (Below.refl _ _) (.num hf)).mono ?_
  rintro e w12 ⟨rfl, b12⟩
  unfold asDate
  have HB12 := Lib.hid (bchain HB11.out b12)
  have bE := below_alloc w12 (.cells #[.int .i64 0, .int .i64 0, .int .i64 0] 30)
  have HBE := Lib.hid (bchain HB12.out bE)
  have e0 := keepC (keepC Hc0D11.out b12) bE
  have e1 := keepC (keepC Hc1D11.out b12) bE
  have e2 := keepC (keepC Hc2D11.out b12) bE
  have cR12 := keepC (keepC HcR11.out b12) bE
  have dR12 := keepC (keepC HdR11.out b12) bE
  clear b12 bE cP11 cR10 dR10 fR10 cS8 cR8 dR8
  go_wp2_with fail
  go_ret
  exact ⟨rfl, HBE.out⟩
set_option maxHeartbeats 4000000 in
theorem mustw_text (s : ByteArray) (hf : s.size ≤ 140737488355328) (w : World) :
    Calls Try.prog 28 #[.agg #[(.iface 74 (.string s))], .int .i64 (2)] w fun e w' => e = .returned (.bool true) ∧ Below w.heap.size w w' := by
  have hmf : ∀ (fn : Fn) (first cap : Array Value) (w : World), (Instr.makeFunc fn first cap).run Try.prog w = .ok (.func fn first cap) w := fun _ _ _ _ => rfl
  have ne : (s.toList == s.toList) = true := beq_self_eq_true _
  have nm : (s.toList != s.toList) = false := bne_self_eq_false _
  have HB1 : Hid (Below w.heap.size w ((w.alloc (.cells #[(.iface 74 (.string s))] 25)).alloc (.cells #[.int .i64 0] 3))) := Lib.hid (((Below.refl _ _).alloc (Nat.le_refl _) _).alloc (by simp) _)
  have HcP1 : Hid (((w.alloc (.cells #[(.iface 74 (.string s))] 25)).alloc (.cells #[.int .i64 0] 3)).cell? ⟨w.heap.size, 0, none⟩ = some (.iface 74 (.string s))) := Lib.hid (by simp [go_sem])
  have HcQ1 : Hid (((w.alloc (.cells #[(.iface 74 (.string s))] 25)).alloc (.cells #[.int .i64 0] 3)).cell? ⟨w.heap.size + 1, 0, none⟩ = some (.int .i64 0)) := Lib.hid (by simp [go_sem])
  have HfQ1 : Hid (∀ o, ((w.alloc (.cells #[(.iface 74 (.string s))] 25)).alloc (.cells #[.int .i64 0] 3)).frozen? ⟨w.heap.size + 1, o, none⟩ = false) := Lib.hid (fun o => by simp [go_sem])
  have Hs1 : Hid (((w.alloc (.cells #[(.iface 74 (.string s))] 25)).alloc (.cells #[.int .i64 0] 3)).heap.size = w.heap.size + 2) := Lib.hid (by simp)
  go_enter Try.func28, Try.ntmps28
  go_wp2_with fail
  refine (caught1_no (A := fun _ => True) (.text s) (.iface 74 (.string s)) w.heap.size (w.heap.size + 1) ((w.alloc (.cells #[(.iface 74 (.string s))] 25)).alloc (.cells #[.int .i64 0] 3)) HcP1.out (.text hf) (by simp [Th.kind])).mono ?_
  rintro e w2 ⟨rfl, b2⟩
  have HU2 := Lib.hid (Upd.of (w.heap.size + 1) b2)
  have HcQ2 : Hid (w2.cell? ⟨w.heap.size + 1, 0, none⟩ = some (.int .i64 0)) := Lib.hid (keepC HcQ1.out b2)
  clear b2
  simp only [Th.kind]
  have Hs2 : Hid (w.heap.size + 2 ≤ w2.heap.size) := Lib.hid (by have := HU2.out.size; have := Hs1.out; omega)
  have HB3 : Hid (Below w.heap.size w (w2.alloc (.cells #[.int .i64 1, .int .i64 2] 43))) := Lib.hid (bchain (HU2.out.below w HB1.out (by omega)) (below_alloc _ _))
  have cP3 : (w2.alloc (.cells #[.int .i64 1, .int .i64 2] 43)).cell? ⟨w.heap.size, 0, none⟩ = some (.iface 74 (.string s)) := keepC (HU2.out.keepC HcP1.out (by omega)) (below_alloc _ _)
  have HcP3 := Lib.hid cP3
  have HcQ3 : Hid ((w2.alloc (.cells #[.int .i64 1, .int .i64 2] 43)).cell? ⟨w.heap.size + 1, 0, none⟩ = some (.int .i64 0)) := Lib.hid (keepC HcQ2.out (below_alloc _ _))
  have HcR3 : Hid ((w2.alloc (.cells #[.int .i64 1, .int .i64 2] 43)).cell? ⟨w2.heap.size, 0, none⟩ = some (.int .i64 1)) := Lib.hid (by simp [go_sem])
  have HdR3 : Hid ((w2.alloc (.cells #[.int .i64 1, .int .i64 2] 43)).cell? ⟨w2.heap.size, 1, none⟩ = some (.int .i64 2)) := Lib.hid (by simp [go_sem])
  have HfR3 : Hid (∀ o, (w2.alloc (.cells #[.int .i64 1, .int .i64 2] 43)).frozen? ⟨w2.heap.size, o, none⟩ = false) := Lib.hid (fun o => by simp [go_sem])
  have Hs3 : Hid ((w2.alloc (.cells #[.int .i64 1, .int .i64 2] 43)).heap.size = w2.heap.size + 1) := Lib.hid (by simp)
  go_wp2_with fail
  refine (kind_int (A := fun _ => True) (.text s) (.iface 74 (.string s)) (w2.alloc (.cells #[.int .i64 1, .int .i64 2] 43)) _ (Below.refl _ _) (.text hf)).mono ?_
  rintro e w4 ⟨rfl, b4⟩
  unfold asInt
  have HB4 := Lib.hid (bchain HB3.out b4)
  have HcP4 : Hid (w4.cell? ⟨w.heap.size, 0, none⟩ = some (.iface 74 (.string s))) := Lib.hid (keepC HcP3.out b4)
  have cQ4 := keepC HcQ3.out b4
  have cR4 := keepC HcR3.out b4
  have dR4 := keepC HdR3.out b4
  have HcR4 := Lib.hid cR4
  have HdR4 := Lib.hid dR4
  have HfR4 : Hid (∀ o, w4.frozen? ⟨w2.heap.size, o, none⟩ = false) := Lib.hid (fun o => keepF HcR3.out b4 (HfR3.out o))
  have Hs4 : Hid (w2.heap.size + 1 ≤ w4.heap.size) := Lib.hid (by have := b4.size; have := Hs3.out; omega)
  clear b4 cP3
  have HB5 : Hid (Below w.heap.size w (w4.alloc (.cells #[.string ⟨#[]⟩] 9))) := Lib.hid (bchain HB4.out (below_alloc _ _))
  have HcP5 : Hid ((w4.alloc (.cells #[.string ⟨#[]⟩] 9)).cell? ⟨w.heap.size, 0, none⟩ = some (.iface 74 (.string s))) := Lib.hid (keepC HcP4.out (below_alloc _ _))
  have HcS5 : Hid ((w4.alloc (.cells #[.string ⟨#[]⟩] 9)).cell? ⟨w4.heap.size, 0, none⟩ = some (.string ⟨#[]⟩)) := Lib.hid (by simp [go_sem])
  have HfS5 : Hid (∀ o, (w4.alloc (.cells #[.string ⟨#[]⟩] 9)).frozen? ⟨w4.heap.size, o, none⟩ = false) := Lib.hid (fun o => by simp [go_sem])
  have Hs5 : Hid ((w4.alloc (.cells #[.string ⟨#[]⟩] 9)).heap.size = w4.heap.size + 1) := Lib.hid (by simp)
  go_wp2_with fail
  refine (caught2_ok s hf w.heap.size w4.heap.size (w4.alloc (.cells #[.string ⟨#[]⟩] 9)) HcP5.out HcS5.out HfS5.out).mono ?_
  rintro e w6 ⟨rfl, hU6, hc6⟩
  have HU6 := Lib.hid hU6
  have HcS6 : Hid (w6.cell? ⟨w4.heap.size, 0, none⟩ = some (.string s)) := Lib.hid hc6
  clear hU6 hc6
  have cR6 : w6.cell? ⟨w2.heap.size, 0, none⟩ = some (.int .i64 1) := HU6.out.keepC (keepC HcR4.out (below_alloc _ _)) (by have := Hs4.out; omega)
  have dR6 : w6.cell? ⟨w2.heap.size, 1, none⟩ = some (.int .i64 2) := HU6.out.keepC (keepC HdR4.out (below_alloc _ _)) (by have := Hs4.out; omega)
  have fR6 : ∀ o, w6.frozen? ⟨w2.heap.size, o, none⟩ = false := fun o => HU6.out.keepF (keepC HcR4.out (below_alloc _ _)) (keepF HcR4.out (below_alloc _ _) (HfR4.out o))
  have HB7 : Hid (Below w.heap.size w ((w6.setCell ⟨w2.heap.size, 0, none⟩ (.int .i64 0)).setCell ⟨w2.heap.size, 1, none⟩ (.int .i64 0))) := Lib.hid (((HU6.out.below w HB5.out (by have := Hs4.out; have := Hs2.out; omega)).setCell (p := ⟨w2.heap.size, 0, none⟩) (by have := Hs2.out; simp; omega) _).setCell (p := ⟨w2.heap.size, 1, none⟩) (by have := Hs2.out; simp; omega) _)
  have cP7 : ((w6.setCell ⟨w2.heap.size, 0, none⟩ (.int .i64 0)).setCell ⟨w2.heap.size, 1, none⟩ (.int .i64 0)).cell? ⟨w.heap.size, 0, none⟩ = some (.iface 74 (.string s)) := set2_keep (HU6.out.keepC HcP5.out (by have := Hs4.out; have := Hs2.out; omega)) (by have := Hs2.out; omega)
  have HcP7 := Lib.hid cP7
  have HcS7 : Hid (((w6.setCell ⟨w2.heap.size, 0, none⟩ (.int .i64 0)).setCell ⟨w2.heap.size, 1, none⟩ (.int .i64 0)).cell? ⟨w4.heap.size, 0, none⟩ = some (.string s)) := Lib.hid (set2_keep HcS6.out (by have := Hs4.out; omega))
  have HcR7 : Hid (((w6.setCell ⟨w2.heap.size, 0, none⟩ (.int .i64 0)).setCell ⟨w2.heap.size, 1, none⟩ (.int .i64 0)).cell? ⟨w2.heap.size, 0, none⟩ = some (.int .i64 0)) := Lib.hid (set2_0 cR6 dR6)
  have HdR7 : Hid (((w6.setCell ⟨w2.heap.size, 0, none⟩ (.int .i64 0)).setCell ⟨w2.heap.size, 1, none⟩ (.int .i64 0)).cell? ⟨w2.heap.size, 1, none⟩ = some (.int .i64 0)) := Lib.hid (set2_1 cR6 dR6)
  have HfR7 : Hid (∀ o, ((w6.setCell ⟨w2.heap.size, 0, none⟩ (.int .i64 0)).setCell ⟨w2.heap.size, 1, none⟩ (.int .i64 0)).frozen? ⟨w2.heap.size, o, none⟩ = false) := Lib.hid (fun o => set2_f (fR6 o))
  have Hs6 : Hid (w4.heap.size + 1 ≤ w6.heap.size) := Lib.hid (by have := HU6.out.size; have := Hs5.out; omega)
  have Hs7 : Hid (((w6.setCell ⟨w2.heap.size, 0, none⟩ (.int .i64 0)).setCell ⟨w2.heap.size, 1, none⟩ (.int .i64 0)).heap.size = w6.heap.size) := Lib.hid (by simp)
  go_wp2_with fail
  refine (kind_text (A := fun _ => True) (.text s) (.iface 74 (.string s)) ((w6.setCell ⟨w2.heap.size, 0, none⟩ (.int .i64 0)).setCell ⟨w2.heap.size, 1, none⟩ (.int .i64 0)) _ (Below.refl _ _) (.text hf)).mono ?_
  rintro e w8 ⟨rfl, b8⟩
  unfold asText
  have HB8 := Lib.hid (bchain HB7.out b8)
  have HcP8 : Hid (w8.cell? ⟨w.heap.size, 0, none⟩ = some (.iface 74 (.string s))) := Lib.hid (keepC HcP7.out b8)
  have cS8 := keepC HcS7.out b8
  have cR8 := keepC HcR7.out b8
  have dR8 := keepC HdR7.out b8
  have HcR8 := Lib.hid cR8
  have HdR8 := Lib.hid dR8
  have HfR8 : Hid (∀ o, w8.frozen? ⟨w2.heap.size, o, none⟩ = false) := Lib.hid (fun o => keepF HcR7.out b8 (HfR7.out o))
  have Hs8 : Hid (w6.heap.size ≤ w8.heap.size) := Lib.hid (by have := b8.size; have := Hs7.out; omega)
  clear b8 cP7 cR6 dR6 fR6 cQ4 cR4 dR4
  have HB9 : Hid (Below w.heap.size w (w8.alloc (.cells #[.int .i64 0, .int .i64 0, .int .i64 0] 30))) := Lib.hid (bchain HB8.out (below_alloc _ _))
  have HcP9 : Hid ((w8.alloc (.cells #[.int .i64 0, .int .i64 0, .int .i64 0] 30)).cell? ⟨w.heap.size, 0, none⟩ = some (.iface 74 (.string s))) := Lib.hid (keepC HcP8.out (below_alloc _ _))
  have Hc0D9 : Hid ((w8.alloc (.cells #[.int .i64 0, .int .i64 0, .int .i64 0] 30)).cell? ⟨w8.heap.size, 0, none⟩ = some (.int .i64 0)) := Lib.hid (by simp [go_sem])
  have Hc1D9 : Hid ((w8.alloc (.cells #[.int .i64 0, .int .i64 0, .int .i64 0] 30)).cell? ⟨w8.heap.size, 1, none⟩ = some (.int .i64 0)) := Lib.hid (by simp [go_sem])
  have Hc2D9 : Hid ((w8.alloc (.cells #[.int .i64 0, .int .i64 0, .int .i64 0] 30)).cell? ⟨w8.heap.size, 2, none⟩ = some (.int .i64 0)) := Lib.hid (by simp [go_sem])
  have HfD9 : Hid (∀ o, (w8.alloc (.cells #[.int .i64 0, .int .i64 0, .int .i64 0] 30)).frozen? ⟨w8.heap.size, o, none⟩ = false) := Lib.hid (fun o => by simp [go_sem])
  have Hs9 : Hid ((w8.alloc (.cells #[.int .i64 0, .int .i64 0, .int .i64 0] 30)).heap.size = w8.heap.size + 1) := Lib.hid (by simp)
  go_wp2_with fail
  refine (caught3_no (A := fun _ => True) (.text s) (.iface 74 (.string s)) w.heap.size w8.heap.size (w8.alloc (.cells #[.int .i64 0, .int .i64 0, .int .i64 0] 30)) HcP9.out (.text hf) (by simp [Th.kind])).mono ?_
  rintro e w10 ⟨rfl, b10⟩
  have HU10 := Lib.hid (Upd.of w8.heap.size b10)
  have Hc0D10 : Hid (w10.cell? ⟨w8.heap.size, 0, none⟩ = some (.int .i64 0)) := Lib.hid (keepC Hc0D9.out b10)
  have Hc1D10 : Hid (w10.cell? ⟨w8.heap.size, 1, none⟩ = some (.int .i64 0)) := Lib.hid (keepC Hc1D9.out b10)
  have Hc2D10 : Hid (w10.cell? ⟨w8.heap.size, 2, none⟩ = some (.int .i64 0)) := Lib.hid (keepC Hc2D9.out b10)
  clear b10
  simp only [Th.kind]
  have hne : w2.heap.size ≠ w8.heap.size := by have := Hs4.out; have := Hs6.out; have := Hs8.out; omega
  have cR10 : w10.cell? ⟨w2.heap.size, 0, none⟩ = some (.int .i64 0) := HU10.out.keepC (keepC HcR8.out (below_alloc _ _)) hne
  have dR10 : w10.cell? ⟨w2.heap.size, 1, none⟩ = some (.int .i64 0) := HU10.out.keepC (keepC HdR8.out (below_alloc _ _)) hne
  have fR10 : ∀ o, w10.frozen? ⟨w2.heap.size, o, none⟩ = false := fun o => HU10.out.keepF (keepC HcR8.out (below_alloc _ _)) (keepF HcR8.out (below_alloc _ _) (HfR8.out o))
  have HB11 : Hid (Below w.heap.size w ((w10.setCell ⟨w2.heap.size, 0, none⟩ (.int .i64 4)).setCell ⟨w2.heap.size, 1, none⟩ (.int .i64 2))) := Lib.hid (((HU10.out.below w HB9.out (by have := Hs2.out; have := Hs4.out; have := Hs6.out; have := Hs8.out; omega)).setCell (p := ⟨w2.heap.size, 0, none⟩) (by have := Hs2.out; simp; omega) _).setCell (p := ⟨w2.heap.size, 1, none⟩) (by have := Hs2.out; simp; omega) _)
  have cP11 : ((w10.setCell ⟨w2.heap.size, 0, none⟩ (.int .i64 4)).setCell ⟨w2.heap.size, 1, none⟩ (.int .i64 2)).cell? ⟨w.heap.size, 0, none⟩ = some (.iface 74 (.string s)) := set2_keep (HU10.out.keepC HcP9.out (by have := Hs2.out; have := Hs4.out; have := Hs6.out; have := Hs8.out; omega)) (by have := Hs2.out; omega)
  have Hc0D11 : Hid (((w10.setCell ⟨w2.heap.size, 0, none⟩ (.int .i64 4)).setCell ⟨w2.heap.size, 1, none⟩ (.int .i64 2)).cell? ⟨w8.heap.size, 0, none⟩ = some (.int .i64 0)) := Lib.hid (set2_keep Hc0D10.out (fun h => hne h.symm))
  have Hc1D11 : Hid (((w10.setCell ⟨w2.heap.size, 0, none⟩ (.int .i64 4)).setCell ⟨w2.heap.size, 1, none⟩ (.int .i64 2)).cell? ⟨w8.heap.size, 1, none⟩ = some (.int .i64 0)) := Lib.hid (set2_keep Hc1D10.out (fun h => hne h.symm))
  have Hc2D11 : Hid (((w10.setCell ⟨w2.heap.size, 0, none⟩ (.int .i64 4)).setCell ⟨w2.heap.size, 1, none⟩ (.int .i64 2)).cell? ⟨w8.heap.size, 2, none⟩ = some (.int .i64 0)) := Lib.hid (set2_keep Hc2D10.out (fun h => hne h.symm))
  have HcR11 : Hid (((w10.setCell ⟨w2.heap.size, 0, none⟩ (.int .i64 4)).setCell ⟨w2.heap.size, 1, none⟩ (.int .i64 2)).cell? ⟨w2.heap.size, 0, none⟩ = some (.int .i64 4)) := Lib.hid (set2_0 cR10 dR10)
  have HdR11 : Hid (((w10.setCell ⟨w2.heap.size, 0, none⟩ (.int .i64 4)).setCell ⟨w2.heap.size, 1, none⟩ (.int .i64 2)).cell? ⟨w2.heap.size, 1, none⟩ = some (.int .i64 2)) := Lib.hid (set2_1 cR10 dR10)
  clear hne
  go_wp2_with fail
  refine (kind_date (A := fun _ => True) (.text s) (.iface 74 (.string s)) ((w10.setCell ⟨w2.heap.size, 0, none⟩ (.int .i64 4)).setCell ⟨w2.heap.size, 1, none⟩ (.int .i64 2)) _ (Below.refl _ _) (.text hf)).mono ?_
  rintro e w12 ⟨rfl, b12⟩
  unfold asDate
  have HB12 := Lib.hid (bchain HB11.out b12)
  have bE := below_alloc w12 (.cells #[.int .i64 0, .int .i64 0, .int .i64 0] 30)
  have HBE := Lib.hid (bchain HB12.out bE)
  have e0 := keepC (keepC Hc0D11.out b12) bE
  have e1 := keepC (keepC Hc1D11.out b12) bE
  have e2 := keepC (keepC Hc2D11.out b12) bE
  have cR12 := keepC (keepC HcR11.out b12) bE
  have dR12 := keepC (keepC HdR11.out b12) bE
  clear b12 bE cP11 cR10 dR10 fR10 cS8 cR8 dR8
  go_wp2_with fail
  go_ret
  exact ⟨rfl, HBE.out⟩
set_option maxHeartbeats 4000000 in
theorem mustw_day (y m d : Int) (hy : Fit y) (hm : Fit m) (hd : Fit d) (w : World) :
    Calls Try.prog 28 #[.agg #[(.iface 78 (.agg #[.int .i64 y, .int .i64 m, .int .i64 d]))], .int .i64 (4)] w fun e w' => e = .returned (.bool true) ∧ Below w.heap.size w w' := by
  have hmf : ∀ (fn : Fn) (first cap : Array Value) (w : World), (Instr.makeFunc fn first cap).run Try.prog w = .ok (.func fn first cap) w := fun _ _ _ _ => rfl
  have ne0 : (y == y) = true := beq_self_eq_true _
  have ne1 : (m == m) = true := beq_self_eq_true _
  have ne2 : (d == d) = true := beq_self_eq_true _
  have HB1 : Hid (Below w.heap.size w ((w.alloc (.cells #[(.iface 78 (.agg #[.int .i64 y, .int .i64 m, .int .i64 d]))] 25)).alloc (.cells #[.int .i64 0] 3))) := Lib.hid (((Below.refl _ _).alloc (Nat.le_refl _) _).alloc (by simp) _)
  have HcP1 : Hid (((w.alloc (.cells #[(.iface 78 (.agg #[.int .i64 y, .int .i64 m, .int .i64 d]))] 25)).alloc (.cells #[.int .i64 0] 3)).cell? ⟨w.heap.size, 0, none⟩ = some (.iface 78 (.agg #[.int .i64 y, .int .i64 m, .int .i64 d]))) := Lib.hid (by simp [go_sem])
  have HcQ1 : Hid (((w.alloc (.cells #[(.iface 78 (.agg #[.int .i64 y, .int .i64 m, .int .i64 d]))] 25)).alloc (.cells #[.int .i64 0] 3)).cell? ⟨w.heap.size + 1, 0, none⟩ = some (.int .i64 0)) := Lib.hid (by simp [go_sem])
  have HfQ1 : Hid (∀ o, ((w.alloc (.cells #[(.iface 78 (.agg #[.int .i64 y, .int .i64 m, .int .i64 d]))] 25)).alloc (.cells #[.int .i64 0] 3)).frozen? ⟨w.heap.size + 1, o, none⟩ = false) := Lib.hid (fun o => by simp [go_sem])
  have Hs1 : Hid (((w.alloc (.cells #[(.iface 78 (.agg #[.int .i64 y, .int .i64 m, .int .i64 d]))] 25)).alloc (.cells #[.int .i64 0] 3)).heap.size = w.heap.size + 2) := Lib.hid (by simp)
  go_enter Try.func28, Try.ntmps28
  go_wp2_with fail
  refine (caught1_no (A := fun _ => True) (.day y m d) (.iface 78 (.agg #[.int .i64 y, .int .i64 m, .int .i64 d])) w.heap.size (w.heap.size + 1) ((w.alloc (.cells #[(.iface 78 (.agg #[.int .i64 y, .int .i64 m, .int .i64 d]))] 25)).alloc (.cells #[.int .i64 0] 3)) HcP1.out (.day hy hm hd) (by simp [Th.kind])).mono ?_
  rintro e w2 ⟨rfl, b2⟩
  have HU2 := Lib.hid (Upd.of (w.heap.size + 1) b2)
  have HcQ2 : Hid (w2.cell? ⟨w.heap.size + 1, 0, none⟩ = some (.int .i64 0)) := Lib.hid (keepC HcQ1.out b2)
  clear b2
  simp only [Th.kind]
  have Hs2 : Hid (w.heap.size + 2 ≤ w2.heap.size) := Lib.hid (by have := HU2.out.size; have := Hs1.out; omega)
  have HB3 : Hid (Below w.heap.size w (w2.alloc (.cells #[.int .i64 1, .int .i64 4] 43))) := Lib.hid (bchain (HU2.out.below w HB1.out (by omega)) (below_alloc _ _))
  have cP3 : (w2.alloc (.cells #[.int .i64 1, .int .i64 4] 43)).cell? ⟨w.heap.size, 0, none⟩ = some (.iface 78 (.agg #[.int .i64 y, .int .i64 m, .int .i64 d])) := keepC (HU2.out.keepC HcP1.out (by omega)) (below_alloc _ _)
  have HcP3 := Lib.hid cP3
  have HcQ3 : Hid ((w2.alloc (.cells #[.int .i64 1, .int .i64 4] 43)).cell? ⟨w.heap.size + 1, 0, none⟩ = some (.int .i64 0)) := Lib.hid (keepC HcQ2.out (below_alloc _ _))
  have HcR3 : Hid ((w2.alloc (.cells #[.int .i64 1, .int .i64 4] 43)).cell? ⟨w2.heap.size, 0, none⟩ = some (.int .i64 1)) := Lib.hid (by simp [go_sem])
  have HdR3 : Hid ((w2.alloc (.cells #[.int .i64 1, .int .i64 4] 43)).cell? ⟨w2.heap.size, 1, none⟩ = some (.int .i64 4)) := Lib.hid (by simp [go_sem])
  have HfR3 : Hid (∀ o, (w2.alloc (.cells #[.int .i64 1, .int .i64 4] 43)).frozen? ⟨w2.heap.size, o, none⟩ = false) := Lib.hid (fun o => by simp [go_sem])
  have Hs3 : Hid ((w2.alloc (.cells #[.int .i64 1, .int .i64 4] 43)).heap.size = w2.heap.size + 1) := Lib.hid (by simp)
  go_wp2_with fail
  refine (kind_int (A := fun _ => True) (.day y m d) (.iface 78 (.agg #[.int .i64 y, .int .i64 m, .int .i64 d])) (w2.alloc (.cells #[.int .i64 1, .int .i64 4] 43)) _ (Below.refl _ _) (.day hy hm hd)).mono ?_
  rintro e w4 ⟨rfl, b4⟩
  unfold asInt
  have HB4 := Lib.hid (bchain HB3.out b4)
  have HcP4 : Hid (w4.cell? ⟨w.heap.size, 0, none⟩ = some (.iface 78 (.agg #[.int .i64 y, .int .i64 m, .int .i64 d]))) := Lib.hid (keepC HcP3.out b4)
  have cQ4 := keepC HcQ3.out b4
  have cR4 := keepC HcR3.out b4
  have dR4 := keepC HdR3.out b4
  have HcR4 := Lib.hid cR4
  have HdR4 := Lib.hid dR4
  have HfR4 : Hid (∀ o, w4.frozen? ⟨w2.heap.size, o, none⟩ = false) := Lib.hid (fun o => keepF HcR3.out b4 (HfR3.out o))
  have Hs4 : Hid (w2.heap.size + 1 ≤ w4.heap.size) := Lib.hid (by have := b4.size; have := Hs3.out; omega)
  clear b4 cP3
  have HB5 : Hid (Below w.heap.size w (w4.alloc (.cells #[.string ⟨#[]⟩] 9))) := Lib.hid (bchain HB4.out (below_alloc _ _))
  have HcP5 : Hid ((w4.alloc (.cells #[.string ⟨#[]⟩] 9)).cell? ⟨w.heap.size, 0, none⟩ = some (.iface 78 (.agg #[.int .i64 y, .int .i64 m, .int .i64 d]))) := Lib.hid (keepC HcP4.out (below_alloc _ _))
  have HcS5 : Hid ((w4.alloc (.cells #[.string ⟨#[]⟩] 9)).cell? ⟨w4.heap.size, 0, none⟩ = some (.string ⟨#[]⟩)) := Lib.hid (by simp [go_sem])
  have HfS5 : Hid (∀ o, (w4.alloc (.cells #[.string ⟨#[]⟩] 9)).frozen? ⟨w4.heap.size, o, none⟩ = false) := Lib.hid (fun o => by simp [go_sem])
  have Hs5 : Hid ((w4.alloc (.cells #[.string ⟨#[]⟩] 9)).heap.size = w4.heap.size + 1) := Lib.hid (by simp)
  go_wp2_with fail
  refine (caught2_no (A := fun _ => True) (.day y m d) (.iface 78 (.agg #[.int .i64 y, .int .i64 m, .int .i64 d])) w.heap.size w4.heap.size (w4.alloc (.cells #[.string ⟨#[]⟩] 9)) HcP5.out (.day hy hm hd) (by simp [Th.kind])).mono ?_
  rintro e w6 ⟨rfl, b6⟩
  have HU6 := Lib.hid (Upd.of w4.heap.size b6)
  have HcS6 : Hid (w6.cell? ⟨w4.heap.size, 0, none⟩ = some (.string ⟨#[]⟩)) := Lib.hid (keepC HcS5.out b6)
  clear b6
  simp only [Th.kind]
  have cR6 : w6.cell? ⟨w2.heap.size, 0, none⟩ = some (.int .i64 1) := HU6.out.keepC (keepC HcR4.out (below_alloc _ _)) (by have := Hs4.out; omega)
  have dR6 : w6.cell? ⟨w2.heap.size, 1, none⟩ = some (.int .i64 4) := HU6.out.keepC (keepC HdR4.out (below_alloc _ _)) (by have := Hs4.out; omega)
  have fR6 : ∀ o, w6.frozen? ⟨w2.heap.size, o, none⟩ = false := fun o => HU6.out.keepF (keepC HcR4.out (below_alloc _ _)) (keepF HcR4.out (below_alloc _ _) (HfR4.out o))
  have HB7 : Hid (Below w.heap.size w ((w6.setCell ⟨w2.heap.size, 0, none⟩ (.int .i64 2)).setCell ⟨w2.heap.size, 1, none⟩ (.int .i64 4))) := Lib.hid (((HU6.out.below w HB5.out (by have := Hs4.out; have := Hs2.out; omega)).setCell (p := ⟨w2.heap.size, 0, none⟩) (by have := Hs2.out; simp; omega) _).setCell (p := ⟨w2.heap.size, 1, none⟩) (by have := Hs2.out; simp; omega) _)
  have cP7 : ((w6.setCell ⟨w2.heap.size, 0, none⟩ (.int .i64 2)).setCell ⟨w2.heap.size, 1, none⟩ (.int .i64 4)).cell? ⟨w.heap.size, 0, none⟩ = some (.iface 78 (.agg #[.int .i64 y, .int .i64 m, .int .i64 d])) := set2_keep (HU6.out.keepC HcP5.out (by have := Hs4.out; have := Hs2.out; omega)) (by have := Hs2.out; omega)
  have HcP7 := Lib.hid cP7
  have HcS7 : Hid (((w6.setCell ⟨w2.heap.size, 0, none⟩ (.int .i64 2)).setCell ⟨w2.heap.size, 1, none⟩ (.int .i64 4)).cell? ⟨w4.heap.size, 0, none⟩ = some (.string ⟨#[]⟩)) := Lib.hid (set2_keep HcS6.out (by have := Hs4.out; omega))
  have HcR7 : Hid (((w6.setCell ⟨w2.heap.size, 0, none⟩ (.int .i64 2)).setCell ⟨w2.heap.size, 1, none⟩ (.int .i64 4)).cell? ⟨w2.heap.size, 0, none⟩ = some (.int .i64 2)) := Lib.hid (set2_0 cR6 dR6)
  have HdR7 : Hid (((w6.setCell ⟨w2.heap.size, 0, none⟩ (.int .i64 2)).setCell ⟨w2.heap.size, 1, none⟩ (.int .i64 4)).cell? ⟨w2.heap.size, 1, none⟩ = some (.int .i64 4)) := Lib.hid (set2_1 cR6 dR6)
  have HfR7 : Hid (∀ o, ((w6.setCell ⟨w2.heap.size, 0, none⟩ (.int .i64 2)).setCell ⟨w2.heap.size, 1, none⟩ (.int .i64 4)).frozen? ⟨w2.heap.size, o, none⟩ = false) := Lib.hid (fun o => set2_f (fR6 o))
  have Hs6 : Hid (w4.heap.size + 1 ≤ w6.heap.size) := Lib.hid (by have := HU6.out.size; have := Hs5.out; omega)
  have Hs7 : Hid (((w6.setCell ⟨w2.heap.size, 0, none⟩ (.int .i64 2)).setCell ⟨w2.heap.size, 1, none⟩ (.int .i64 4)).heap.size = w6.heap.size) := Lib.hid (by simp)
  go_wp2_with fail
  refine (kind_text (A := fun _ => True) (.day y m d) (.iface 78 (.agg #[.int .i64 y, .int .i64 m, .int .i64 d])) ((w6.setCell ⟨w2.heap.size, 0, none⟩ (.int .i64 2)).setCell ⟨w2.heap.size, 1, none⟩ (.int .i64 4)) _ (Below.refl _ _) (.day hy hm hd)).mono ?_
  rintro e w8 ⟨rfl, b8⟩
  unfold asText
  have HB8 := Lib.hid (bchain HB7.out b8)
  have HcP8 : Hid (w8.cell? ⟨w.heap.size, 0, none⟩ = some (.iface 78 (.agg #[.int .i64 y, .int .i64 m, .int .i64 d]))) := Lib.hid (keepC HcP7.out b8)
  have cS8 := keepC HcS7.out b8
  have cR8 := keepC HcR7.out b8
  have dR8 := keepC HdR7.out b8
  have HcR8 := Lib.hid cR8
  have HdR8 := Lib.hid dR8
  have HfR8 : Hid (∀ o, w8.frozen? ⟨w2.heap.size, o, none⟩ = false) := Lib.hid (fun o => keepF HcR7.out b8 (HfR7.out o))
  have Hs8 : Hid (w6.heap.size ≤ w8.heap.size) := Lib.hid (by have := b8.size; have := Hs7.out; omega)
  clear b8 cP7 cR6 dR6 fR6 cQ4 cR4 dR4
  have HB9 : Hid (Below w.heap.size w (w8.alloc (.cells #[.int .i64 0, .int .i64 0, .int .i64 0] 30))) := Lib.hid (bchain HB8.out (below_alloc _ _))
  have HcP9 : Hid ((w8.alloc (.cells #[.int .i64 0, .int .i64 0, .int .i64 0] 30)).cell? ⟨w.heap.size, 0, none⟩ = some (.iface 78 (.agg #[.int .i64 y, .int .i64 m, .int .i64 d]))) := Lib.hid (keepC HcP8.out (below_alloc _ _))
  have Hc0D9 : Hid ((w8.alloc (.cells #[.int .i64 0, .int .i64 0, .int .i64 0] 30)).cell? ⟨w8.heap.size, 0, none⟩ = some (.int .i64 0)) := Lib.hid (by simp [go_sem])
  have Hc1D9 : Hid ((w8.alloc (.cells #[.int .i64 0, .int .i64 0, .int .i64 0] 30)).cell? ⟨w8.heap.size, 1, none⟩ = some (.int .i64 0)) := Lib.hid (by simp [go_sem])
  have Hc2D9 : Hid ((w8.alloc (.cells #[.int .i64 0, .int .i64 0, .int .i64 0] 30)).cell? ⟨w8.heap.size, 2, none⟩ = some (.int .i64 0)) := Lib.hid (by simp [go_sem])
  have HfD9 : Hid (∀ o, (w8.alloc (.cells #[.int .i64 0, .int .i64 0, .int .i64 0] 30)).frozen? ⟨w8.heap.size, o, none⟩ = false) := Lib.hid (fun o => by simp [go_sem])
  have Hs9 : Hid ((w8.alloc (.cells #[.int .i64 0, .int .i64 0, .int .i64 0] 30)).heap.size = w8.heap.size + 1) := Lib.hid (by simp)
  go_wp2_with fail
  refine (caught3_ok y m d hy hm hd w.heap.size w8.heap.size (w8.alloc (.cells #[.int .i64 0, .int .i64 0, .int .i64 0] 30)) HcP9.out Hc0D9.out Hc1D9.out Hc2D9.out HfD9.out).mono ?_
  rintro e w10 ⟨rfl, hU10, q0, q1, q2⟩
  have HU10 := Lib.hid hU10
  have Hc0D10 : Hid (w10.cell? ⟨w8.heap.size, 0, none⟩ = some (.int .i64 y)) := Lib.hid q0
  have Hc1D10 : Hid (w10.cell? ⟨w8.heap.size, 1, none⟩ = some (.int .i64 m)) := Lib.hid q1
  have Hc2D10 : Hid (w10.cell? ⟨w8.heap.size, 2, none⟩ = some (.int .i64 d)) := Lib.hid q2
  clear hU10 q0 q1 q2
  have hne : w2.heap.size ≠ w8.heap.size := by have := Hs4.out; have := Hs6.out; have := Hs8.out; omega
  have cR10 : w10.cell? ⟨w2.heap.size, 0, none⟩ = some (.int .i64 2) := HU10.out.keepC (keepC HcR8.out (below_alloc _ _)) hne
  have dR10 : w10.cell? ⟨w2.heap.size, 1, none⟩ = some (.int .i64 4) := HU10.out.keepC (keepC HdR8.out (below_alloc _ _)) hne
  have fR10 : ∀ o, w10.frozen? ⟨w2.heap.size, o, none⟩ = false := fun o => HU10.out.keepF (keepC HcR8.out (below_alloc _ _)) (keepF HcR8.out (below_alloc _ _) (HfR8.out o))
  have HB11 : Hid (Below w.heap.size w ((w10.setCell ⟨w2.heap.size, 0, none⟩ (.int .i64 0)).setCell ⟨w2.heap.size, 1, none⟩ (.int .i64 0))) := Lib.hid (((HU10.out.below w HB9.out (by have := Hs2.out; have := Hs4.out; have := Hs6.out; have := Hs8.out; omega)).setCell (p := ⟨w2.heap.size, 0, none⟩) (by have := Hs2.out; simp; omega) _).setCell (p := ⟨w2.heap.size, 1, none⟩) (by have := Hs2.out; simp; omega) _)
  have cP11 : ((w10.setCell ⟨w2.heap.size, 0, none⟩ (.int .i64 0)).setCell ⟨w2.heap.size, 1, none⟩ (.int .i64 0)).cell? ⟨w.heap.size, 0, none⟩ = some (.iface 78 (.agg #[.int .i64 y, .int .i64 m, .int .i64 d])) := set2_keep (HU10.out.keepC HcP9.out (by have := Hs2.out; have := Hs4.out; have := Hs6.out; have := Hs8.out; omega)) (by have := Hs2.out; omega)
  have Hc0D11 : Hid (((w10.setCell ⟨w2.heap.size, 0, none⟩ (.int .i64 0)).setCell ⟨w2.heap.size, 1, none⟩ (.int .i64 0)).cell? ⟨w8.heap.size, 0, none⟩ = some (.int .i64 y)) := Lib.hid (set2_keep Hc0D10.out (fun h => hne h.symm))
  have Hc1D11 : Hid (((w10.setCell ⟨w2.heap.size, 0, none⟩ (.int .i64 0)).setCell ⟨w2.heap.size, 1, none⟩ (.int .i64 0)).cell? ⟨w8.heap.size, 1, none⟩ = some (.int .i64 m)) := Lib.hid (set2_keep Hc1D10.out (fun h => hne h.symm))
  have Hc2D11 : Hid (((w10.setCell ⟨w2.heap.size, 0, none⟩ (.int .i64 0)).setCell ⟨w2.heap.size, 1, none⟩ (.int .i64 0)).cell? ⟨w8.heap.size, 2, none⟩ = some (.int .i64 d)) := Lib.hid (set2_keep Hc2D10.out (fun h => hne h.symm))
  have HcR11 : Hid (((w10.setCell ⟨w2.heap.size, 0, none⟩ (.int .i64 0)).setCell ⟨w2.heap.size, 1, none⟩ (.int .i64 0)).cell? ⟨w2.heap.size, 0, none⟩ = some (.int .i64 0)) := Lib.hid (set2_0 cR10 dR10)
  have HdR11 : Hid (((w10.setCell ⟨w2.heap.size, 0, none⟩ (.int .i64 0)).setCell ⟨w2.heap.size, 1, none⟩ (.int .i64 0)).cell? ⟨w2.heap.size, 1, none⟩ = some (.int .i64 0)) := Lib.hid (set2_1 cR10 dR10)
  clear hne
  go_wp2_with fail
  refine (kind_date (A := fun _ => True) (.day y m d) (.iface 78 (.agg #[.int .i64 y, .int .i64 m, .int .i64 d])) ((w10.setCell ⟨w2.heap.size, 0, none⟩ (.int .i64 0)).setCell ⟨w2.heap.size, 1, none⟩ (.int .i64 0)) _ (Below.refl _ _) (.day hy hm hd)).mono ?_
  rintro e w12 ⟨rfl, b12⟩
  unfold asDate
  have HB12 := Lib.hid (bchain HB11.out b12)
  have bE := below_alloc w12 (.cells #[.int .i64 y, .int .i64 m, .int .i64 d] 30)
  have HBE := Lib.hid (bchain HB12.out bE)
  have e0 := keepC (keepC Hc0D11.out b12) bE
  have e1 := keepC (keepC Hc1D11.out b12) bE
  have e2 := keepC (keepC Hc2D11.out b12) bE
  have cR12 := keepC (keepC HcR11.out b12) bE
  have dR12 := keepC (keepC HdR11.out b12) bE
  clear b12 bE cP11 cR10 dR10 fR10 cS8 cR8 dR8
  go_wp2_with fail
  go_ret
  exact ⟨rfl, HBE.out⟩
set_option maxHeartbeats 4000000 in
theorem mustw_other {A : Nat → Prop} (t : Th) (v : Value) (w : World) (hI : Is A w t v) (h1 : t.kind ≠ 1) (h2 : t.kind ≠ 2) (h4 : t.kind ≠ 4) :
    Calls Try.prog 28 #[.agg #[v], .int .i64 (t.kind)] w fun e w' => e = .returned (.bool true) ∧ Below w.heap.size w w' := by
  have hmf : ∀ (fn : Fn) (first cap : Array Value) (w : World), (Instr.makeFunc fn first cap).run Try.prog w = .ok (.func fn first cap) w := fun _ _ _ _ => rfl
  have hv1 := hI.oneCell
  have HI := Lib.hid hI.lt
  have H1 := Lib.hid h1
  have H2 := Lib.hid h2
  have H4 := Lib.hid h4
  obtain ⟨k, hk⟩ : ∃ k, t.kind = k := ⟨_, rfl⟩
  have HK := Lib.hid hk
  rw [hk] at h1 h2 h4 ⊢
  have n1 : (k != 1) = true := bne_iff_ne.2 h1
  have n2 : (k != 2) = true := bne_iff_ne.2 h2
  have n4 : (k != 4) = true := bne_iff_ne.2 h4
  have nk : (k == k) = true := beq_self_eq_true _
  have mk : (k != k) = false := bne_self_eq_false _
  clear hI h1 h2 h4 hk
  have HB1 : Hid (Below w.heap.size w ((w.alloc (.cells #[v] 25)).alloc (.cells #[.int .i64 0] 3))) := Lib.hid (((Below.refl _ _).alloc (Nat.le_refl _) _).alloc (by simp) _)
  have HcP1 : Hid (((w.alloc (.cells #[v] 25)).alloc (.cells #[.int .i64 0] 3)).cell? ⟨w.heap.size, 0, none⟩ = some v) := Lib.hid (by simp [go_sem])
  have HcQ1 : Hid (((w.alloc (.cells #[v] 25)).alloc (.cells #[.int .i64 0] 3)).cell? ⟨w.heap.size + 1, 0, none⟩ = some (.int .i64 0)) := Lib.hid (by simp [go_sem])
  have HfQ1 : Hid (∀ o, ((w.alloc (.cells #[v] 25)).alloc (.cells #[.int .i64 0] 3)).frozen? ⟨w.heap.size + 1, o, none⟩ = false) := Lib.hid (fun o => by simp [go_sem])
  have Hs1 : Hid (((w.alloc (.cells #[v] 25)).alloc (.cells #[.int .i64 0] 3)).heap.size = w.heap.size + 2) := Lib.hid (by simp)
  go_enter Try.func28, Try.ntmps28
  go_wp2_with fail
  refine (caught1_no t v w.heap.size (w.heap.size + 1) ((w.alloc (.cells #[v] 25)).alloc (.cells #[.int .i64 0] 3)) HcP1.out (is_at HI.out HB1.out) H1.out).mono ?_
  rintro e w2 ⟨rfl, b2⟩
  have HU2 := Lib.hid (Upd.of (w.heap.size + 1) b2)
  have HcQ2 : Hid (w2.cell? ⟨w.heap.size + 1, 0, none⟩ = some (.int .i64 0)) := Lib.hid (keepC HcQ1.out b2)
  clear b2
  rw [HK.out]
  have Hs2 : Hid (w.heap.size + 2 ≤ w2.heap.size) := Lib.hid (by have := HU2.out.size; have := Hs1.out; omega)
  have HB3 : Hid (Below w.heap.size w (w2.alloc (.cells #[.int .i64 1, .int .i64 k] 43))) := Lib.hid (bchain (HU2.out.below w HB1.out (by omega)) (below_alloc _ _))
  have cP3 : (w2.alloc (.cells #[.int .i64 1, .int .i64 k] 43)).cell? ⟨w.heap.size, 0, none⟩ = some v := keepC (HU2.out.keepC HcP1.out (by omega)) (below_alloc _ _)
  have HcP3 := Lib.hid cP3
  have HcQ3 : Hid ((w2.alloc (.cells #[.int .i64 1, .int .i64 k] 43)).cell? ⟨w.heap.size + 1, 0, none⟩ = some (.int .i64 0)) := Lib.hid (keepC HcQ2.out (below_alloc _ _))
  have HcR3 : Hid ((w2.alloc (.cells #[.int .i64 1, .int .i64 k] 43)).cell? ⟨w2.heap.size, 0, none⟩ = some (.int .i64 1)) := Lib.hid (by simp [go_sem])
  have HdR3 : Hid ((w2.alloc (.cells #[.int .i64 1, .int .i64 k] 43)).cell? ⟨w2.heap.size, 1, none⟩ = some (.int .i64 k)) := Lib.hid (by simp [go_sem])
  have HfR3 : Hid (∀ o, (w2.alloc (.cells #[.int .i64 1, .int .i64 k] 43)).frozen? ⟨w2.heap.size, o, none⟩ = false) := Lib.hid (fun o => by simp [go_sem])
  have Hs3 : Hid ((w2.alloc (.cells #[.int .i64 1, .int .i64 k] 43)).heap.size = w2.heap.size + 1) := Lib.hid (by simp)
  go_wp2_with fail
  refine (kind_int t v (w2.alloc (.cells #[.int .i64 1, .int .i64 k] 43)) _ (Below.refl _ _) (is_at HI.out HB3.out)).mono ?_
  rintro e w4 ⟨rfl, b4⟩
  rw [asInt_no H1.out]
  have HB4 := Lib.hid (bchain HB3.out b4)
  have HcP4 : Hid (w4.cell? ⟨w.heap.size, 0, none⟩ = some v) := Lib.hid (keepC HcP3.out b4)
  have cQ4 := keepC HcQ3.out b4
  have cR4 := keepC HcR3.out b4
  have dR4 := keepC HdR3.out b4
  have HcR4 := Lib.hid cR4
  have HdR4 := Lib.hid dR4
  have HfR4 : Hid (∀ o, w4.frozen? ⟨w2.heap.size, o, none⟩ = false) := Lib.hid (fun o => keepF HcR3.out b4 (HfR3.out o))
  have Hs4 : Hid (w2.heap.size + 1 ≤ w4.heap.size) := Lib.hid (by have := b4.size; have := Hs3.out; omega)
  clear b4 cP3
  have HB5 : Hid (Below w.heap.size w (w4.alloc (.cells #[.string ⟨#[]⟩] 9))) := Lib.hid (bchain HB4.out (below_alloc _ _))
  have HcP5 : Hid ((w4.alloc (.cells #[.string ⟨#[]⟩] 9)).cell? ⟨w.heap.size, 0, none⟩ = some v) := Lib.hid (keepC HcP4.out (below_alloc _ _))
  have HcS5 : Hid ((w4.alloc (.cells #[.string ⟨#[]⟩] 9)).cell? ⟨w4.heap.size, 0, none⟩ = some (.string ⟨#[]⟩)) := Lib.hid (by simp [go_sem])
  have HfS5 : Hid (∀ o, (w4.alloc (.cells #[.string ⟨#[]⟩] 9)).frozen? ⟨w4.heap.size, o, none⟩ = false) := Lib.hid (fun o => by simp [go_sem])
  have Hs5 : Hid ((w4.alloc (.cells #[.string ⟨#[]⟩] 9)).heap.size = w4.heap.size + 1) := Lib.hid (by simp)
  go_wp2_with fail
  refine (caught2_no t v w.heap.size w4.heap.size (w4.alloc (.cells #[.string ⟨#[]⟩] 9)) HcP5.out (is_at HI.out HB5.out) H2.out).mono ?_
  rintro e w6 ⟨rfl, b6⟩
  have HU6 := Lib.hid (Upd.of w4.heap.size b6)
  have HcS6 : Hid (w6.cell? ⟨w4.heap.size, 0, none⟩ = some (.string ⟨#[]⟩)) := Lib.hid (keepC HcS5.out b6)
  clear b6
  rw [HK.out]
  have cR6 : w6.cell? ⟨w2.heap.size, 0, none⟩ = some (.int .i64 1) := HU6.out.keepC (keepC HcR4.out (below_alloc _ _)) (by have := Hs4.out; omega)
  have dR6 : w6.cell? ⟨w2.heap.size, 1, none⟩ = some (.int .i64 k) := HU6.out.keepC (keepC HdR4.out (below_alloc _ _)) (by have := Hs4.out; omega)
  have fR6 : ∀ o, w6.frozen? ⟨w2.heap.size, o, none⟩ = false := fun o => HU6.out.keepF (keepC HcR4.out (below_alloc _ _)) (keepF HcR4.out (below_alloc _ _) (HfR4.out o))
  have HB7 : Hid (Below w.heap.size w ((w6.setCell ⟨w2.heap.size, 0, none⟩ (.int .i64 2)).setCell ⟨w2.heap.size, 1, none⟩ (.int .i64 k))) := Lib.hid (((HU6.out.below w HB5.out (by have := Hs4.out; have := Hs2.out; omega)).setCell (p := ⟨w2.heap.size, 0, none⟩) (by have := Hs2.out; simp; omega) _).setCell (p := ⟨w2.heap.size, 1, none⟩) (by have := Hs2.out; simp; omega) _)
  have cP7 : ((w6.setCell ⟨w2.heap.size, 0, none⟩ (.int .i64 2)).setCell ⟨w2.heap.size, 1, none⟩ (.int .i64 k)).cell? ⟨w.heap.size, 0, none⟩ = some v := set2_keep (HU6.out.keepC HcP5.out (by have := Hs4.out; have := Hs2.out; omega)) (by have := Hs2.out; omega)
  have HcP7 := Lib.hid cP7
  have HcS7 : Hid (((w6.setCell ⟨w2.heap.size, 0, none⟩ (.int .i64 2)).setCell ⟨w2.heap.size, 1, none⟩ (.int .i64 k)).cell? ⟨w4.heap.size, 0, none⟩ = some (.string ⟨#[]⟩)) := Lib.hid (set2_keep HcS6.out (by have := Hs4.out; omega))
  have HcR7 : Hid (((w6.setCell ⟨w2.heap.size, 0, none⟩ (.int .i64 2)).setCell ⟨w2.heap.size, 1, none⟩ (.int .i64 k)).cell? ⟨w2.heap.size, 0, none⟩ = some (.int .i64 2)) := Lib.hid (set2_0 cR6 dR6)
  have HdR7 : Hid (((w6.setCell ⟨w2.heap.size, 0, none⟩ (.int .i64 2)).setCell ⟨w2.heap.size, 1, none⟩ (.int .i64 k)).cell? ⟨w2.heap.size, 1, none⟩ = some (.int .i64 k)) := Lib.hid (set2_1 cR6 dR6)
  have HfR7 : Hid (∀ o, ((w6.setCell ⟨w2.heap.size, 0, none⟩ (.int .i64 2)).setCell ⟨w2.heap.size, 1, none⟩ (.int .i64 k)).frozen? ⟨w2.heap.size, o, none⟩ = false) := Lib.hid (fun o => set2_f (fR6 o))
  have Hs6 : Hid (w4.heap.size + 1 ≤ w6.heap.size) := Lib.hid (by have := HU6.out.size; have := Hs5.out; omega)
  have Hs7 : Hid (((w6.setCell ⟨w2.heap.size, 0, none⟩ (.int .i64 2)).setCell ⟨w2.heap.size, 1, none⟩ (.int .i64 k)).heap.size = w6.heap.size) := Lib.hid (by simp)
  go_wp2_with fail
  refine (kind_text t v ((w6.setCell ⟨w2.heap.size, 0, none⟩ (.int .i64 2)).setCell ⟨w2.heap.size, 1, none⟩ (.int .i64 k)) _ (Below.refl _ _) (is_at HI.out HB7.out)).mono ?_
  rintro e w8 ⟨rfl, b8⟩
  rw [asText_no H2.out]
  have HB8 := Lib.hid (bchain HB7.out b8)
  have HcP8 : Hid (w8.cell? ⟨w.heap.size, 0, none⟩ = some v) := Lib.hid (keepC HcP7.out b8)
  have cS8 := keepC HcS7.out b8
  have cR8 := keepC HcR7.out b8
  have dR8 := keepC HdR7.out b8
  have HcR8 := Lib.hid cR8
  have HdR8 := Lib.hid dR8
  have HfR8 : Hid (∀ o, w8.frozen? ⟨w2.heap.size, o, none⟩ = false) := Lib.hid (fun o => keepF HcR7.out b8 (HfR7.out o))
  have Hs8 : Hid (w6.heap.size ≤ w8.heap.size) := Lib.hid (by have := b8.size; have := Hs7.out; omega)
  clear b8 cP7 cR6 dR6 fR6 cQ4 cR4 dR4
  have HB9 : Hid (Below w.heap.size w (w8.alloc (.cells #[.int .i64 0, .int .i64 0, .int .i64 0] 30))) := Lib.hid (bchain HB8.out (below_alloc _ _))
  have HcP9 : Hid ((w8.alloc (.cells #[.int .i64 0, .int .i64 0, .int .i64 0] 30)).cell? ⟨w.heap.size, 0, none⟩ = some v) := Lib.hid (keepC HcP8.out (below_alloc _ _))
  have Hc0D9 : Hid ((w8.alloc (.cells #[.int .i64 0, .int .i64 0, .int .i64 0] 30)).cell? ⟨w8.heap.size, 0, none⟩ = some (.int .i64 0)) := Lib.hid (by simp [go_sem])
  have Hc1D9 : Hid ((w8.alloc (.cells #[.int .i64 0, .int .i64 0, .int .i64 0] 30)).cell? ⟨w8.heap.size, 1, none⟩ = some (.int .i64 0)) := Lib.hid (by simp [go_sem])
  have Hc2D9 : Hid ((w8.alloc (.cells #[.int .i64 0, .int .i64 0, .int .i64 0] 30)).cell? ⟨w8.heap.size, 2, none⟩ = some (.int .i64 0)) := Lib.hid (by simp [go_sem])
  have HfD9 : Hid (∀ o, (w8.alloc (.cells #[.int .i64 0, .int .i64 0, .int .i64 0] 30)).frozen? ⟨w8.heap.size, o, none⟩ = false) := Lib.hid (fun o => by simp [go_sem])
  have Hs9 : Hid ((w8.alloc (.cells #[.int .i64 0, .int .i64 0, .int .i64 0] 30)).heap.size = w8.heap.size + 1) := Lib.hid (by simp)
  go_wp2_with fail
  refine (caught3_no t v w.heap.size w8.heap.size (w8.alloc (.cells #[.int .i64 0, .int .i64 0, .int .i64 0] 30)) HcP9.out (is_at HI.out HB9.out) H4.out).mono ?_
  rintro e w10 ⟨rfl, b10⟩
  have HU10 := Lib.hid (Upd.of w8.heap.size b10)
  have Hc0D10 : Hid (w10.cell? ⟨w8.heap.size, 0, none⟩ = some (.int .i64 0)) := Lib.hid (keepC Hc0D9.out b10)
  have Hc1D10 : Hid (w10.cell? ⟨w8.heap.size, 1, none⟩ = some (.int .i64 0)) := Lib.hid (keepC Hc1D9.out b10)
  have Hc2D10 : Hid (w10.cell? ⟨w8.heap.size, 2, none⟩ = some (.int .i64 0)) := Lib.hid (keepC Hc2D9.out b10)
  clear b10
  rw [HK.out]
  have hne : w2.heap.size ≠ w8.heap.size := by have := Hs4.out; have := Hs6.out; have := Hs8.out; omega
  have cR10 : w10.cell? ⟨w2.heap.size, 0, none⟩ = some (.int .i64 2) := HU10.out.keepC (keepC HcR8.out (below_alloc _ _)) hne
  have dR10 : w10.cell? ⟨w2.heap.size, 1, none⟩ = some (.int .i64 k) := HU10.out.keepC (keepC HdR8.out (below_alloc _ _)) hne
  have fR10 : ∀ o, w10.frozen? ⟨w2.heap.size, o, none⟩ = false := fun o => HU10.out.keepF (keepC HcR8.out (below_alloc _ _)) (keepF HcR8.out (below_alloc _ _) (HfR8.out o))
  have HB11 : Hid (Below w.heap.size w ((w10.setCell ⟨w2.heap.size, 0, none⟩ (.int .i64 4)).setCell ⟨w2.heap.size, 1, none⟩ (.int .i64 k))) := Lib.hid (((HU10.out.below w HB9.out (by have := Hs2.out; have := Hs4.out; have := Hs6.out; have := Hs8.out; omega)).setCell (p := ⟨w2.heap.size, 0, none⟩) (by have := Hs2.out; simp; omega) _).setCell (p := ⟨w2.heap.size, 1, none⟩) (by have := Hs2.out; simp; omega) _)
  have cP11 : ((w10.setCell ⟨w2.heap.size, 0, none⟩ (.int .i64 4)).setCell ⟨w2.heap.size, 1, none⟩ (.int .i64 k)).cell? ⟨w.heap.size, 0, none⟩ = some v := set2_keep (HU10.out.keepC HcP9.out (by have := Hs2.out; have := Hs4.out; have := Hs6.out; have := Hs8.out; omega)) (by have := Hs2.out; omega)
  have Hc0D11 : Hid (((w10.setCell ⟨w2.heap.size, 0, none⟩ (.int .i64 4)).setCell ⟨w2.heap.size, 1, none⟩ (.int .i64 k)).cell? ⟨w8.heap.size, 0, none⟩ = some (.int .i64 0)) := Lib.hid (set2_keep Hc0D10.out (fun h => hne h.symm))
  have Hc1D11 : Hid (((w10.setCell ⟨w2.heap.size, 0, none⟩ (.int .i64 4)).setCell ⟨w2.heap.size, 1, none⟩ (.int .i64 k)).cell? ⟨w8.heap.size, 1, none⟩ = some (.int .i64 0)) := Lib.hid (set2_keep Hc1D10.out (fun h => hne h.symm))
  have Hc2D11 : Hid (((w10.setCell ⟨w2.heap.size, 0, none⟩ (.int .i64 4)).setCell ⟨w2.heap.size, 1, none⟩ (.int .i64 k)).cell? ⟨w8.heap.size, 2, none⟩ = some (.int .i64 0)) := Lib.hid (set2_keep Hc2D10.out (fun h => hne h.symm))
  have HcR11 : Hid (((w10.setCell ⟨w2.heap.size, 0, none⟩ (.int .i64 4)).setCell ⟨w2.heap.size, 1, none⟩ (.int .i64 k)).cell? ⟨w2.heap.size, 0, none⟩ = some (.int .i64 4)) := Lib.hid (set2_0 cR10 dR10)
  have HdR11 : Hid (((w10.setCell ⟨w2.heap.size, 0, none⟩ (.int .i64 4)).setCell ⟨w2.heap.size, 1, none⟩ (.int .i64 k)).cell? ⟨w2.heap.size, 1, none⟩ = some (.int .i64 k)) := Lib.hid (set2_1 cR10 dR10)
  clear hne
  go_wp2_with fail
  refine (kind_date t v ((w10.setCell ⟨w2.heap.size, 0, none⟩ (.int .i64 4)).setCell ⟨w2.heap.size, 1, none⟩ (.int .i64 k)) _ (Below.refl _ _) (is_at HI.out HB11.out)).mono ?_
  rintro e w12 ⟨rfl, b12⟩
  rw [asDate_no H4.out]
  have HB12 := Lib.hid (bchain HB11.out b12)
  have bE := below_alloc w12 (.cells #[.int .i64 0, .int .i64 0, .int .i64 0] 30)
  have HBE := Lib.hid (bchain HB12.out bE)
  have e0 := keepC (keepC Hc0D11.out b12) bE
  have e1 := keepC (keepC Hc1D11.out b12) bE
  have e2 := keepC (keepC Hc2D11.out b12) bE
  have cR12 := keepC (keepC HcR11.out b12) bE
  have dR12 := keepC (keepC HdR11.out b12) bE
  clear b12 bE cP11 cR10 dR10 fR10 cS8 cR8 dR8
  go_wp2_with fail
  go_ret
  exact ⟨rfl, HBE.out⟩
theorem must_any {A : Nat → Prop} (t : Th) (v : Value) (w0 w : World) (hw : Below w0.heap.size w0 w) (hI : Is A w t v) :
    Calls Try.prog 28 #[.agg #[v], .int .i64 t.kind] w fun e w' => e = .returned (.bool true) ∧ Below w0.heap.size w0 w' := by
  have h : Calls Try.prog 28 #[.agg #[v], .int .i64 t.kind] w fun e w' => e = .returned (.bool true) ∧ Below w.heap.size w w' := by
    cases hI with
    | nothing => exact mustw_other (A := A) .none _ w .nothing (by simp [Th.kind]) (by simp [Th.kind]) (by simp [Th.kind])
    | num h => exact mustw_num _ h w
    | text h => exact mustw_text _ h w
    | @flag b => exact mustw_other (A := A) (.flag b) _ w .flag (by simp [Th.kind]) (by simp [Th.kind]) (by simp [Th.kind])
    | day a b c => exact mustw_day _ _ _ a b c w
    | @list ts vs ao n cap h1 h2 h3 h4 h5 h6 h7 h8 => exact mustw_other (A := A) (.list ts) _ w (.list h1 h2 h3 h4 h5 h6 h7 h8) (by simp [Th.kind]) (by simp [Th.kind]) (by simp [Th.kind])
  exact h.mono fun e w' ⟨he, hb⟩ => ⟨he, bchain hw hb⟩
end Go.Proofs.Ytfmfeagfinnmmaa
