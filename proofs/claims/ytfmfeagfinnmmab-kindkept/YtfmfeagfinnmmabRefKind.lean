/- THE DOCUMENT's OWN ANSWER: impostref8's walk, Of. (By genkind.py.) -/
import Derived.Test.YtfmfeagfinnmmabKd
import Derived.Test.YtfmfeagfinnmmabVlS
namespace Go.Proofs.Ytfmfeagfinnmmab
open Go.RowKit
open Vl (T)
open Mem

/-- where a thing ends, or what is wrong -/
def Walked (l : List T) (n : Nat) (r : Int ⊕ List T) (e : Ending) : Prop := match r with
  | .inl k => ∃ p : Int, e = both p k
  | .inr rest => ∃ p : Nat, e = both p 0 ∧ p ≤ n ∧ rest = l.drop p
theorem walked_bad {l : List T} {n : Nat} {r : Int ⊕ List T} {k p : Int} (h : r = .inl k) : Walked l n r (both p k) := by
  rw [h]
  exact ⟨p, rfl⟩
theorem walked_at {l : List T} {n p : Nat} {r : Int ⊕ List T} (h : r = .inr (l.drop p)) (hp : p ≤ n) : Walked l n r (both p 0) := by
  rw [h]
  exact ⟨p, rfl, hp, rfl⟩
theorem two_ret {a b c d : Value} (h : a = c) (k : b = d) : Ending.returned (.tuple #[a, b]) = .returned (.tuple #[c, d]) := by rw [h, k]
theorem text_ne {s : ByteArray} (h : s ≠ .empty) : s.toList ≠ [] := fun k => h (txt_ext (by rw [← tl, k]; rfl))
def walkP (ao : Option Addr) (n cap : Nat) (l : List T) (f at' deep : Nat) (w0 w : World) : Prop :=
  Calls Try.prog 12 #[.slice ao n cap, .int .i64 at', .int .i64 deep] w fun e w' => Walked l n (Kd.walkL f (l.drop at')) e ∧ Below w0.heap.size w0 w'
set_option maxHeartbeats 4000000 in
theorem walk_kind0 (l : List T) (b off n cap : Nat) (x : T) (f p deep : Nat) (w0 w : World) (hw : Below w0.heap.size w0 w) (hL : Vl.Ls w (some ⟨b, off, none⟩) n cap l) (hn : n ≤ 200) (hp : p < n) (hd : deep + f = 16) (hx : l[p]? = some x) (hk : x.kind = 0) : walkP (some ⟨b, off, none⟩) n cap l (f + 1) p deep w0 w := by
  have HW := Lib.hid hw
  have HL := Lib.hid hL
  have hcap := hL.reach
  have hfit := hL.fits
  have HN := Lib.hid hL.len
  have hpl : p < l.length := HN.out ▸ hp
  have HDr : Hid (l.drop p = x :: l.drop (p + 1)) := Lib.hid (by
    rw [List.drop_eq_getElem_cons hpl]
    rw [List.getElem?_eq_getElem hpl] at hx
    rw [Option.some.inj hx])
  have hrow := hL.row p hpl
  rw [show l[p] = x from by rw [List.getElem?_eq_getElem hpl] at hx; exact Option.some.inj hx] at hrow
  have hdf : 16 - f = deep := by omega
  have HDf := Lib.hid hdf
  obtain ⟨kind, num, text, y, m, d⟩ := x
  dsimp only at *
  obtain ⟨g0, g1, g2, g3, g4, g5⟩ := hrow
  clear hw hL hx hpl hdf
  unfold walkP
  subst hk
  by_cases z0 : num = 0
  · by_cases z1 : text = .empty
    · by_cases z2 : y = 0
      · by_cases z3 : m = 0
        · by_cases z4 : d = 0
          · subst z0
            subst z1
            subst z2
            subst z3
            subst z4
            have HE := Lib.hid (Kd.chk_good (x := ⟨0, 0, .empty, 0, 0, 0⟩) (deep := deep) (fun h => absurd h.1 (by show ¬ ((0 : Int) = 5); omega)) (by unfold Kd.good; simp))
            go_enter Try.func12, Try.ntmps12
            go_wp2_with fail
            go_ret2
            exact ⟨walked_at (p := p + 1) (by rw [HDr.out, Kd.walk_one (by rw [HDf.out]; exact HE.out) (by show ¬ ((0 : Int) = 5); omega)]) (by omega), below_box (below_box HW.out _) _⟩
          · have HE := Lib.hid (Kd.chk_bad (x := ⟨0, num, text, y, m, d⟩) (deep := deep) (fun h => absurd h.1 (by show ¬ ((0 : Int) = 5); omega)) (by show (0 : Int) ≤ 0; omega) (by show (0 : Int) ≤ 5; omega) (fun h => by unfold Kd.good at h; simp [z4] at h))
            have t1 : (d == 0) = false := beq_eq_false_iff_ne.2 z4
            subst z0
            subst z1
            subst z2
            subst z3
            go_enter Try.func12, Try.ntmps12
            go_wp2_with fail
            go_ret2
            exact ⟨walked_bad (by rw [HDr.out, Kd.walk_bad (by rw [HDf.out, HE.out]; omega), HDf.out, HE.out]), below_box (below_box HW.out _) _⟩
        · have HE := Lib.hid (Kd.chk_bad (x := ⟨0, num, text, y, m, d⟩) (deep := deep) (fun h => absurd h.1 (by show ¬ ((0 : Int) = 5); omega)) (by show (0 : Int) ≤ 0; omega) (by show (0 : Int) ≤ 5; omega) (fun h => by unfold Kd.good at h; simp [z3] at h))
          have t1 : (m == 0) = false := beq_eq_false_iff_ne.2 z3
          subst z0
          subst z1
          subst z2
          go_enter Try.func12, Try.ntmps12
          go_wp2_with fail
          go_ret2
          exact ⟨walked_bad (by rw [HDr.out, Kd.walk_bad (by rw [HDf.out, HE.out]; omega), HDf.out, HE.out]), below_box (below_box HW.out _) _⟩
      · have HE := Lib.hid (Kd.chk_bad (x := ⟨0, num, text, y, m, d⟩) (deep := deep) (fun h => absurd h.1 (by show ¬ ((0 : Int) = 5); omega)) (by show (0 : Int) ≤ 0; omega) (by show (0 : Int) ≤ 5; omega) (fun h => by unfold Kd.good at h; simp [z2] at h))
        have t1 : (y == 0) = false := beq_eq_false_iff_ne.2 z2
        subst z0
        subst z1
        go_enter Try.func12, Try.ntmps12
        go_wp2_with fail
        go_ret2
        exact ⟨walked_bad (by rw [HDr.out, Kd.walk_bad (by rw [HDf.out, HE.out]; omega), HDf.out, HE.out]), below_box (below_box HW.out _) _⟩
    · have HE := Lib.hid (Kd.chk_bad (x := ⟨0, num, text, y, m, d⟩) (deep := deep) (fun h => absurd h.1 (by show ¬ ((0 : Int) = 5); omega)) (by show (0 : Int) ≤ 0; omega) (by show (0 : Int) ≤ 5; omega) (fun h => by unfold Kd.good at h; simp [z1] at h))
      have t1 : (text.toList == []) = false := beq_eq_false_iff_ne.2 (text_ne z1)
      have t2 : text.toList.isEmpty = false := by
        cases e : text.toList with
        | nil => exact absurd e (text_ne z1)
        | cons _ _ => rfl
      subst z0
      go_enter Try.func12, Try.ntmps12
      go_wp2_with fail
      go_ret2
      exact ⟨walked_bad (by rw [HDr.out, Kd.walk_bad (by rw [HDf.out, HE.out]; omega), HDf.out, HE.out]), below_box (below_box HW.out _) _⟩
  · have HE := Lib.hid (Kd.chk_bad (x := ⟨0, num, text, y, m, d⟩) (deep := deep) (fun h => absurd h.1 (by show ¬ ((0 : Int) = 5); omega)) (by show (0 : Int) ≤ 0; omega) (by show (0 : Int) ≤ 5; omega) (fun h => by unfold Kd.good at h; simp [z0] at h))
    have t1 : (num == 0) = false := beq_eq_false_iff_ne.2 z0
    go_enter Try.func12, Try.ntmps12
    go_wp2_with fail
    go_ret2
    exact ⟨walked_bad (by rw [HDr.out, Kd.walk_bad (by rw [HDf.out, HE.out]; omega), HDf.out, HE.out]), below_box (below_box HW.out _) _⟩
set_option maxHeartbeats 4000000 in
theorem walk_kind1 (l : List T) (b off n cap : Nat) (x : T) (f p deep : Nat) (w0 w : World) (hw : Below w0.heap.size w0 w) (hL : Vl.Ls w (some ⟨b, off, none⟩) n cap l) (hn : n ≤ 200) (hp : p < n) (hd : deep + f = 16) (hx : l[p]? = some x) (hk : x.kind = 1) : walkP (some ⟨b, off, none⟩) n cap l (f + 1) p deep w0 w := by
  have HW := Lib.hid hw
  have HL := Lib.hid hL
  have hcap := hL.reach
  have hfit := hL.fits
  have HN := Lib.hid hL.len
  have hpl : p < l.length := HN.out ▸ hp
  have HDr : Hid (l.drop p = x :: l.drop (p + 1)) := Lib.hid (by
    rw [List.drop_eq_getElem_cons hpl]
    rw [List.getElem?_eq_getElem hpl] at hx
    rw [Option.some.inj hx])
  have hrow := hL.row p hpl
  rw [show l[p] = x from by rw [List.getElem?_eq_getElem hpl] at hx; exact Option.some.inj hx] at hrow
  have hdf : 16 - f = deep := by omega
  have HDf := Lib.hid hdf
  obtain ⟨kind, num, text, y, m, d⟩ := x
  dsimp only at *
  obtain ⟨g0, g1, g2, g3, g4, g5⟩ := hrow
  clear hw hL hx hpl hdf
  unfold walkP
  subst hk
  by_cases z0 : text = .empty
  · by_cases z1 : y = 0
    · by_cases z2 : m = 0
      · by_cases z3 : d = 0
        · subst z0
          subst z1
          subst z2
          subst z3
          have HE := Lib.hid (Kd.chk_good (x := ⟨1, num, .empty, 0, 0, 0⟩) (deep := deep) (fun h => absurd h.1 (by show ¬ ((1 : Int) = 5); omega)) (by unfold Kd.good; simp))
          go_enter Try.func12, Try.ntmps12
          go_wp2_with fail
          go_ret2
          exact ⟨walked_at (p := p + 1) (by rw [HDr.out, Kd.walk_one (by rw [HDf.out]; exact HE.out) (by show ¬ ((1 : Int) = 5); omega)]) (by omega), below_box (below_box HW.out _) _⟩
        · have HE := Lib.hid (Kd.chk_bad (x := ⟨1, num, text, y, m, d⟩) (deep := deep) (fun h => absurd h.1 (by show ¬ ((1 : Int) = 5); omega)) (by show (0 : Int) ≤ 1; omega) (by show (1 : Int) ≤ 5; omega) (fun h => by unfold Kd.good at h; simp [z3] at h))
          have t1 : (d == 0) = false := beq_eq_false_iff_ne.2 z3
          subst z0
          subst z1
          subst z2
          go_enter Try.func12, Try.ntmps12
          go_wp2_with fail
          go_ret2
          exact ⟨walked_bad (by rw [HDr.out, Kd.walk_bad (by rw [HDf.out, HE.out]; omega), HDf.out, HE.out]), below_box (below_box HW.out _) _⟩
      · have HE := Lib.hid (Kd.chk_bad (x := ⟨1, num, text, y, m, d⟩) (deep := deep) (fun h => absurd h.1 (by show ¬ ((1 : Int) = 5); omega)) (by show (0 : Int) ≤ 1; omega) (by show (1 : Int) ≤ 5; omega) (fun h => by unfold Kd.good at h; simp [z2] at h))
        have t1 : (m == 0) = false := beq_eq_false_iff_ne.2 z2
        subst z0
        subst z1
        go_enter Try.func12, Try.ntmps12
        go_wp2_with fail
        go_ret2
        exact ⟨walked_bad (by rw [HDr.out, Kd.walk_bad (by rw [HDf.out, HE.out]; omega), HDf.out, HE.out]), below_box (below_box HW.out _) _⟩
    · have HE := Lib.hid (Kd.chk_bad (x := ⟨1, num, text, y, m, d⟩) (deep := deep) (fun h => absurd h.1 (by show ¬ ((1 : Int) = 5); omega)) (by show (0 : Int) ≤ 1; omega) (by show (1 : Int) ≤ 5; omega) (fun h => by unfold Kd.good at h; simp [z1] at h))
      have t1 : (y == 0) = false := beq_eq_false_iff_ne.2 z1
      subst z0
      go_enter Try.func12, Try.ntmps12
      go_wp2_with fail
      go_ret2
      exact ⟨walked_bad (by rw [HDr.out, Kd.walk_bad (by rw [HDf.out, HE.out]; omega), HDf.out, HE.out]), below_box (below_box HW.out _) _⟩
  · have HE := Lib.hid (Kd.chk_bad (x := ⟨1, num, text, y, m, d⟩) (deep := deep) (fun h => absurd h.1 (by show ¬ ((1 : Int) = 5); omega)) (by show (0 : Int) ≤ 1; omega) (by show (1 : Int) ≤ 5; omega) (fun h => by unfold Kd.good at h; simp [z0] at h))
    have t1 : (text.toList == []) = false := beq_eq_false_iff_ne.2 (text_ne z0)
    have t2 : text.toList.isEmpty = false := by
      cases e : text.toList with
      | nil => exact absurd e (text_ne z0)
      | cons _ _ => rfl
    go_enter Try.func12, Try.ntmps12
    go_wp2_with fail
    go_ret2
    exact ⟨walked_bad (by rw [HDr.out, Kd.walk_bad (by rw [HDf.out, HE.out]; omega), HDf.out, HE.out]), below_box (below_box HW.out _) _⟩
set_option maxHeartbeats 4000000 in
theorem walk_kind2 (l : List T) (b off n cap : Nat) (x : T) (f p deep : Nat) (w0 w : World) (hw : Below w0.heap.size w0 w) (hL : Vl.Ls w (some ⟨b, off, none⟩) n cap l) (hn : n ≤ 200) (hp : p < n) (hd : deep + f = 16) (hx : l[p]? = some x) (hk : x.kind = 2) : walkP (some ⟨b, off, none⟩) n cap l (f + 1) p deep w0 w := by
  have HW := Lib.hid hw
  have HL := Lib.hid hL
  have hcap := hL.reach
  have hfit := hL.fits
  have HN := Lib.hid hL.len
  have hpl : p < l.length := HN.out ▸ hp
  have HDr : Hid (l.drop p = x :: l.drop (p + 1)) := Lib.hid (by
    rw [List.drop_eq_getElem_cons hpl]
    rw [List.getElem?_eq_getElem hpl] at hx
    rw [Option.some.inj hx])
  have hrow := hL.row p hpl
  rw [show l[p] = x from by rw [List.getElem?_eq_getElem hpl] at hx; exact Option.some.inj hx] at hrow
  have hdf : 16 - f = deep := by omega
  have HDf := Lib.hid hdf
  obtain ⟨kind, num, text, y, m, d⟩ := x
  dsimp only at *
  obtain ⟨g0, g1, g2, g3, g4, g5⟩ := hrow
  clear hw hL hx hpl hdf
  unfold walkP
  subst hk
  by_cases z0 : num = 0
  · by_cases z1 : y = 0
    · by_cases z2 : m = 0
      · by_cases z3 : d = 0
        · subst z0
          subst z1
          subst z2
          subst z3
          have HE := Lib.hid (Kd.chk_good (x := ⟨2, 0, text, 0, 0, 0⟩) (deep := deep) (fun h => absurd h.1 (by show ¬ ((2 : Int) = 5); omega)) (by unfold Kd.good; simp))
          go_enter Try.func12, Try.ntmps12
          go_wp2_with fail
          go_ret2
          exact ⟨walked_at (p := p + 1) (by rw [HDr.out, Kd.walk_one (by rw [HDf.out]; exact HE.out) (by show ¬ ((2 : Int) = 5); omega)]) (by omega), below_box (below_box HW.out _) _⟩
        · have HE := Lib.hid (Kd.chk_bad (x := ⟨2, num, text, y, m, d⟩) (deep := deep) (fun h => absurd h.1 (by show ¬ ((2 : Int) = 5); omega)) (by show (0 : Int) ≤ 2; omega) (by show (2 : Int) ≤ 5; omega) (fun h => by unfold Kd.good at h; simp [z3] at h))
          have t1 : (d == 0) = false := beq_eq_false_iff_ne.2 z3
          subst z0
          subst z1
          subst z2
          go_enter Try.func12, Try.ntmps12
          go_wp2_with fail
          go_ret2
          exact ⟨walked_bad (by rw [HDr.out, Kd.walk_bad (by rw [HDf.out, HE.out]; omega), HDf.out, HE.out]), below_box (below_box HW.out _) _⟩
      · have HE := Lib.hid (Kd.chk_bad (x := ⟨2, num, text, y, m, d⟩) (deep := deep) (fun h => absurd h.1 (by show ¬ ((2 : Int) = 5); omega)) (by show (0 : Int) ≤ 2; omega) (by show (2 : Int) ≤ 5; omega) (fun h => by unfold Kd.good at h; simp [z2] at h))
        have t1 : (m == 0) = false := beq_eq_false_iff_ne.2 z2
        subst z0
        subst z1
        go_enter Try.func12, Try.ntmps12
        go_wp2_with fail
        go_ret2
        exact ⟨walked_bad (by rw [HDr.out, Kd.walk_bad (by rw [HDf.out, HE.out]; omega), HDf.out, HE.out]), below_box (below_box HW.out _) _⟩
    · have HE := Lib.hid (Kd.chk_bad (x := ⟨2, num, text, y, m, d⟩) (deep := deep) (fun h => absurd h.1 (by show ¬ ((2 : Int) = 5); omega)) (by show (0 : Int) ≤ 2; omega) (by show (2 : Int) ≤ 5; omega) (fun h => by unfold Kd.good at h; simp [z1] at h))
      have t1 : (y == 0) = false := beq_eq_false_iff_ne.2 z1
      subst z0
      go_enter Try.func12, Try.ntmps12
      go_wp2_with fail
      go_ret2
      exact ⟨walked_bad (by rw [HDr.out, Kd.walk_bad (by rw [HDf.out, HE.out]; omega), HDf.out, HE.out]), below_box (below_box HW.out _) _⟩
  · have HE := Lib.hid (Kd.chk_bad (x := ⟨2, num, text, y, m, d⟩) (deep := deep) (fun h => absurd h.1 (by show ¬ ((2 : Int) = 5); omega)) (by show (0 : Int) ≤ 2; omega) (by show (2 : Int) ≤ 5; omega) (fun h => by unfold Kd.good at h; simp [z0] at h))
    have t1 : (num == 0) = false := beq_eq_false_iff_ne.2 z0
    go_enter Try.func12, Try.ntmps12
    go_wp2_with fail
    go_ret2
    exact ⟨walked_bad (by rw [HDr.out, Kd.walk_bad (by rw [HDf.out, HE.out]; omega), HDf.out, HE.out]), below_box (below_box HW.out _) _⟩
set_option maxHeartbeats 4000000 in
theorem walk_kind3 (l : List T) (b off n cap : Nat) (x : T) (f p deep : Nat) (w0 w : World) (hw : Below w0.heap.size w0 w) (hL : Vl.Ls w (some ⟨b, off, none⟩) n cap l) (hn : n ≤ 200) (hp : p < n) (hd : deep + f = 16) (hx : l[p]? = some x) (hk : x.kind = 3) : walkP (some ⟨b, off, none⟩) n cap l (f + 1) p deep w0 w := by
  have HW := Lib.hid hw
  have HL := Lib.hid hL
  have hcap := hL.reach
  have hfit := hL.fits
  have HN := Lib.hid hL.len
  have hpl : p < l.length := HN.out ▸ hp
  have HDr : Hid (l.drop p = x :: l.drop (p + 1)) := Lib.hid (by
    rw [List.drop_eq_getElem_cons hpl]
    rw [List.getElem?_eq_getElem hpl] at hx
    rw [Option.some.inj hx])
  have hrow := hL.row p hpl
  rw [show l[p] = x from by rw [List.getElem?_eq_getElem hpl] at hx; exact Option.some.inj hx] at hrow
  have hdf : 16 - f = deep := by omega
  have HDf := Lib.hid hdf
  obtain ⟨kind, num, text, y, m, d⟩ := x
  dsimp only at *
  obtain ⟨g0, g1, g2, g3, g4, g5⟩ := hrow
  clear hw hL hx hpl hdf
  unfold walkP
  subst hk
  by_cases z0 : text = .empty
  · by_cases z1 : y = 0
    · by_cases z2 : m = 0
      · by_cases z3 : d = 0
        · subst z0
          subst z1
          subst z2
          subst z3
          by_cases z8 : num = 0
          · subst z8
            have HE := Lib.hid (Kd.chk_good (x := ⟨3, 0, .empty, 0, 0, 0⟩) (deep := deep) (fun h => absurd h.1 (by show ¬ ((3 : Int) = 5); omega)) (by unfold Kd.good; simp))
            go_enter Try.func12, Try.ntmps12
            go_wp2_with fail
            go_ret2
            exact ⟨walked_at (p := p + 1) (by rw [HDr.out, Kd.walk_one (by rw [HDf.out]; exact HE.out) (by show ¬ ((3 : Int) = 5); omega)]) (by omega), below_box (below_box HW.out _) _⟩
          · by_cases z9 : num = 1
            · subst z9
              have HE := Lib.hid (Kd.chk_good (x := ⟨3, 1, .empty, 0, 0, 0⟩) (deep := deep) (fun h => absurd h.1 (by show ¬ ((3 : Int) = 5); omega)) (by unfold Kd.good; simp))
              go_enter Try.func12, Try.ntmps12
              go_wp2_with fail
              go_ret2
              exact ⟨walked_at (p := p + 1) (by rw [HDr.out, Kd.walk_one (by rw [HDf.out]; exact HE.out) (by show ¬ ((3 : Int) = 5); omega)]) (by omega), below_box (below_box HW.out _) _⟩
            · have HE := Lib.hid (Kd.chk_bad (x := ⟨3, num, .empty, 0, 0, 0⟩) (deep := deep) (fun h => absurd h.1 (by show ¬ ((3 : Int) = 5); omega)) (by show (0 : Int) ≤ 3; omega) (by show (3 : Int) ≤ 5; omega) (fun h => by unfold Kd.good at h; simp [z8, z9] at h))
              have t1 : (num != 0) = true := bne_iff_ne.2 z8
              have t2 : (num != 1) = true := bne_iff_ne.2 z9
              go_enter Try.func12, Try.ntmps12
              go_wp2_with fail
              go_ret2
              exact ⟨walked_bad (by rw [HDr.out, Kd.walk_bad (by rw [HDf.out, HE.out]; omega), HDf.out, HE.out]), below_box (below_box HW.out _) _⟩
        · have HE := Lib.hid (Kd.chk_bad (x := ⟨3, num, text, y, m, d⟩) (deep := deep) (fun h => absurd h.1 (by show ¬ ((3 : Int) = 5); omega)) (by show (0 : Int) ≤ 3; omega) (by show (3 : Int) ≤ 5; omega) (fun h => by unfold Kd.good at h; simp [z3] at h))
          have t1 : (d == 0) = false := beq_eq_false_iff_ne.2 z3
          subst z0
          subst z1
          subst z2
          go_enter Try.func12, Try.ntmps12
          go_wp2_with fail
          go_ret2
          exact ⟨walked_bad (by rw [HDr.out, Kd.walk_bad (by rw [HDf.out, HE.out]; omega), HDf.out, HE.out]), below_box (below_box HW.out _) _⟩
      · have HE := Lib.hid (Kd.chk_bad (x := ⟨3, num, text, y, m, d⟩) (deep := deep) (fun h => absurd h.1 (by show ¬ ((3 : Int) = 5); omega)) (by show (0 : Int) ≤ 3; omega) (by show (3 : Int) ≤ 5; omega) (fun h => by unfold Kd.good at h; simp [z2] at h))
        have t1 : (m == 0) = false := beq_eq_false_iff_ne.2 z2
        subst z0
        subst z1
        go_enter Try.func12, Try.ntmps12
        go_wp2_with fail
        go_ret2
        exact ⟨walked_bad (by rw [HDr.out, Kd.walk_bad (by rw [HDf.out, HE.out]; omega), HDf.out, HE.out]), below_box (below_box HW.out _) _⟩
    · have HE := Lib.hid (Kd.chk_bad (x := ⟨3, num, text, y, m, d⟩) (deep := deep) (fun h => absurd h.1 (by show ¬ ((3 : Int) = 5); omega)) (by show (0 : Int) ≤ 3; omega) (by show (3 : Int) ≤ 5; omega) (fun h => by unfold Kd.good at h; simp [z1] at h))
      have t1 : (y == 0) = false := beq_eq_false_iff_ne.2 z1
      subst z0
      go_enter Try.func12, Try.ntmps12
      go_wp2_with fail
      go_ret2
      exact ⟨walked_bad (by rw [HDr.out, Kd.walk_bad (by rw [HDf.out, HE.out]; omega), HDf.out, HE.out]), below_box (below_box HW.out _) _⟩
  · have HE := Lib.hid (Kd.chk_bad (x := ⟨3, num, text, y, m, d⟩) (deep := deep) (fun h => absurd h.1 (by show ¬ ((3 : Int) = 5); omega)) (by show (0 : Int) ≤ 3; omega) (by show (3 : Int) ≤ 5; omega) (fun h => by unfold Kd.good at h; simp [z0] at h))
    have t1 : (text.toList == []) = false := beq_eq_false_iff_ne.2 (text_ne z0)
    have t2 : text.toList.isEmpty = false := by
      cases e : text.toList with
      | nil => exact absurd e (text_ne z0)
      | cons _ _ => rfl
    go_enter Try.func12, Try.ntmps12
    go_wp2_with fail
    go_ret2
    exact ⟨walked_bad (by rw [HDr.out, Kd.walk_bad (by rw [HDf.out, HE.out]; omega), HDf.out, HE.out]), below_box (below_box HW.out _) _⟩
set_option maxHeartbeats 4000000 in
theorem walk_kind4 (l : List T) (b off n cap : Nat) (x : T) (f p deep : Nat) (w0 w : World) (hw : Below w0.heap.size w0 w) (hL : Vl.Ls w (some ⟨b, off, none⟩) n cap l) (hn : n ≤ 200) (hp : p < n) (hd : deep + f = 16) (hx : l[p]? = some x) (hk : x.kind = 4) : walkP (some ⟨b, off, none⟩) n cap l (f + 1) p deep w0 w := by
  have HW := Lib.hid hw
  have HL := Lib.hid hL
  have hcap := hL.reach
  have hfit := hL.fits
  have HN := Lib.hid hL.len
  have hpl : p < l.length := HN.out ▸ hp
  have HDr : Hid (l.drop p = x :: l.drop (p + 1)) := Lib.hid (by
    rw [List.drop_eq_getElem_cons hpl]
    rw [List.getElem?_eq_getElem hpl] at hx
    rw [Option.some.inj hx])
  have hrow := hL.row p hpl
  rw [show l[p] = x from by rw [List.getElem?_eq_getElem hpl] at hx; exact Option.some.inj hx] at hrow
  have hdf : 16 - f = deep := by omega
  have HDf := Lib.hid hdf
  obtain ⟨kind, num, text, y, m, d⟩ := x
  dsimp only at *
  obtain ⟨g0, g1, g2, g3, g4, g5⟩ := hrow
  clear hw hL hx hpl hdf
  unfold walkP
  subst hk
  by_cases z0 : num = 0
  · by_cases z1 : text = .empty
    · subst z0
      subst z1
      have HE := Lib.hid (Kd.chk_good (x := ⟨4, 0, .empty, y, m, d⟩) (deep := deep) (fun h => absurd h.1 (by show ¬ ((4 : Int) = 5); omega)) (by unfold Kd.good; simp))
      go_enter Try.func12, Try.ntmps12
      go_wp2_with fail
      go_ret2
      exact ⟨walked_at (p := p + 1) (by rw [HDr.out, Kd.walk_one (by rw [HDf.out]; exact HE.out) (by show ¬ ((4 : Int) = 5); omega)]) (by omega), below_box (below_box HW.out _) _⟩
    · have HE := Lib.hid (Kd.chk_bad (x := ⟨4, num, text, y, m, d⟩) (deep := deep) (fun h => absurd h.1 (by show ¬ ((4 : Int) = 5); omega)) (by show (0 : Int) ≤ 4; omega) (by show (4 : Int) ≤ 5; omega) (fun h => by unfold Kd.good at h; simp [z1] at h))
      have t1 : (text.toList == []) = false := beq_eq_false_iff_ne.2 (text_ne z1)
      have t2 : text.toList.isEmpty = false := by
        cases e : text.toList with
        | nil => exact absurd e (text_ne z1)
        | cons _ _ => rfl
      subst z0
      go_enter Try.func12, Try.ntmps12
      go_wp2_with fail
      go_ret2
      exact ⟨walked_bad (by rw [HDr.out, Kd.walk_bad (by rw [HDf.out, HE.out]; omega), HDf.out, HE.out]), below_box (below_box HW.out _) _⟩
  · have HE := Lib.hid (Kd.chk_bad (x := ⟨4, num, text, y, m, d⟩) (deep := deep) (fun h => absurd h.1 (by show ¬ ((4 : Int) = 5); omega)) (by show (0 : Int) ≤ 4; omega) (by show (4 : Int) ≤ 5; omega) (fun h => by unfold Kd.good at h; simp [z0] at h))
    have t1 : (num == 0) = false := beq_eq_false_iff_ne.2 z0
    go_enter Try.func12, Try.ntmps12
    go_wp2_with fail
    go_ret2
    exact ⟨walked_bad (by rw [HDr.out, Kd.walk_bad (by rw [HDf.out, HE.out]; omega), HDf.out, HE.out]), below_box (below_box HW.out _) _⟩
end Go.Proofs.Ytfmfeagfinnmmab
