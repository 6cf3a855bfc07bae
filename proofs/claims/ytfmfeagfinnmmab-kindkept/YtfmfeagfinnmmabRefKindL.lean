/- THE DOCUMENT's OWN ANSWER: impostref8's walk: lists, and all kinds together; Of. (By genkind2.py.) -/
import Derived.Test.YtfmfeagfinnmmabRefKind
namespace Go.Proofs.Ytfmfeagfinnmmab
open Go.RowKit
open Vl (T)
open Mem

theorem Kd.many_ne {g : List T → Int ⊕ List T} (hg : ∀ l e, g l = .inl e → e ≠ 0) : ∀ (k : Nat) (l : List T) (e : Int), Kd.many g k l = .inl e → e ≠ 0
  | 0, l, e, h => by
    rw [Kd.many] at h
    cases h
  | k + 1, l, e, h => by
    cases hr : g l with
    | inl c =>
      rw [Kd.many_bad hr] at h
      injection h with h
      exact h ▸ hg l c hr
    | inr r =>
      rw [Kd.many_step hr] at h
      exact many_ne hg k r e h
theorem Kd.walk_ne : ∀ {f : Nat} {l : List T} {e : Int}, Kd.walkL f l = .inl e → e ≠ 0
  | 0, _, _, h => by
    rw [Kd.walkL] at h
    injection h with h
    omega
  | f + 1, [], _, h => by
    rw [Kd.walk_none] at h
    injection h with h
    omega
  | f + 1, x :: l, e, h => by
    by_cases hc : Kd.chk x (16 - f) = 0
    · by_cases hk : x.kind = 5
      · rw [Kd.walk_list hc hk] at h
        exact Kd.many_ne (fun l e h => Kd.walk_ne (f := f) h) _ _ _ h
      · rw [Kd.walk_one hc hk] at h
        cases h
    · rw [Kd.walk_bad hc] at h
      injection h with h
      omega
set_option maxHeartbeats 4000000 in
theorem walk_lists (l : List T) (b off n cap : Nat) (x : T) (f p deep : Nat) (w0 w : World) (hw : Below w0.heap.size w0 w) (hL : Vl.Ls w (some ⟨b, off, none⟩) n cap l) (hn : n ≤ 200) (hp : p < n) (hd : deep + f = 16) (hx : l[p]? = some x) (hs : Vl.Short x) (hk : x.kind = 5)
    (ih : ∀ (q : Nat) (v0 v : World), 1 ≤ f → q ≤ n → Below v0.heap.size v0 v → Vl.Ls v (some ⟨b, off, none⟩) n cap l → walkP (some ⟨b, off, none⟩) n cap l f q (deep + 1) v0 v) : walkP (some ⟨b, off, none⟩) n cap l (f + 1) p deep w0 w := by
  have hnum : x.n ≤ 9223372036854775807 := hs.2.1.2
  clear hs
  have HW := Lib.hid hw
  have HL := Lib.hid hL
  have hcap := hL.reach
  have hfit := hL.fits
  have HN := Lib.hid hL.len
  have hpl : p < l.length := HN.out ▸ hp
  have HDr : Hid (l.drop p = x :: l.drop (p + 1)) := Lib.hid (by
    rw [List.drop_eq_getElem_cons hpl]
    rw [List.getElem?_eq_getElem hpl] at hx
    rw [Option.some.inj hx])
  have hrow := hL.row p hpl
  rw [show l[p] = x from by rw [List.getElem?_eq_getElem hpl] at hx; exact Option.some.inj hx] at hrow
  have hdf : 16 - f = deep := by omega
  have HDf := Lib.hid hdf
  obtain ⟨kind, num, text, y, m, d⟩ := x
  dsimp only at *
  obtain ⟨g0, g1, g2, g3, g4, g5⟩ := hrow
  clear hw hL hx hpl hdf
  unfold walkP
  subst hk
  by_cases h16 : 16 ≤ deep
  · have HE := Lib.hid (Kd.chk_deep (x := ⟨5, num, text, y, m, d⟩) rfl h16)
    go_enter Try.func12, Try.ntmps12
    go_wp2_with fail
    go_ret2
    exact ⟨walked_bad (by rw [HDr.out, Kd.walk_bad (by rw [HDf.out, HE.out]; omega), HDf.out, HE.out]), below_box HW.out _⟩
  · have hf1 : 1 ≤ f := by omega
    by_cases z0 : text = .empty
    · subst z0
      by_cases z1 : y = 0
      · subst z1
        by_cases z2 : m = 0
        · subst z2
          by_cases z3 : d = 0
          · subst z3
            by_cases hneg : num < 0
            · have HE := Lib.hid (Kd.chk_bad (x := ⟨5, num, .empty, 0, 0, 0⟩) (deep := deep) (fun h => absurd h.2 (by omega)) (by show (0 : Int) ≤ 5; omega) (by show (5 : Int) ≤ 5; omega) (fun h => by unfold Kd.good at h; simp at h; omega))
              go_enter Try.func12, Try.ntmps12
              go_wp2_with fail
              go_ret2
              exact ⟨walked_bad (by rw [HDr.out, Kd.walk_bad (by rw [HDf.out, HE.out]; omega), HDf.out, HE.out]), below_box (below_box HW.out _) _⟩
            · obtain ⟨N, rfl⟩ : ∃ N : Nat, num = N := ⟨num.toNat, by omega⟩
              have HE := Lib.hid (Kd.chk_good (x := ⟨5, N, .empty, 0, 0, 0⟩) (deep := deep) (fun h => absurd h.2 (by omega)) (by unfold Kd.good; simp))
              have HLi : Hid (Kd.walkL (f + 1) (l.drop p) = Kd.many (Kd.walkL f) N (l.drop (p + 1))) := Lib.hid (by rw [HDr.out, Kd.walk_list (by rw [HDf.out]; exact HE.out) rfl]; rfl)
              obtain ⟨W, hW, hbW, hCx, _⟩ := Vl.boxed2 w ⟨5, N, .empty, 0, 0, 0⟩ ⟨5, N, .empty, 0, 0, 0⟩
              have HCx := Lib.hid hCx
              have HBW := Lib.hid (bchain HW.out hbW)
              have HLW := Lib.hid (HL.out.below hbW)
              clear hCx hbW
              dsimp only at hW
              unfold Vl.C at HCx
              dsimp only at HCx
              go_enter Try.func12, Try.ntmps12
              go_wp2_with fail
              go_loopw [1, 10, 11, 12] (fun a i _ _ wr => ∃ q j : Nat, a = .int .i64 q ∧ i = .int .i64 j ∧ q ≤ n ∧ j ≤ N ∧ Hid (Kd.many (Kd.walkL f) (N - j) (l.drop q) = Kd.many (Kd.walkL f) N (l.drop (p + 1))) ∧ Hid (Below W.heap.size W wr)) (fun _ i _ _ _ => N - (intOf i).toNat)
              case atStart => exact ⟨p + 1, 0, by go_num, rfl, by omega, by omega, Lib.hid rfl, Lib.hid (by rw [← hW]; exact Below.refl _ _)⟩
              case round =>
                clear hW
                obtain ⟨q, j, rfl, rfl, hq, hj, HK, HB⟩ := hrel
                have c1 : wr.cell? ⟨w.heap.size, 1, none⟩ = some (.int .i64 (N : Int)) := by
                  have h := HCx.out.2.1
                  rw [(bcell HB.out).1 _ _ (cell_lt h)]
                  exact h
                by_cases hlt : j < N
                · go_wp2_with fail
                  refine (ih q W wr (by omega) hq HB.out (HLW.out.below HB.out)).mono ?_
                  rintro e w1 ⟨hWk, b1⟩
                  have HB1 := Lib.hid b1
                  clear b1
                  cases hr : Kd.walkL f (l.drop q) with
                  | inl k =>
                    rw [hr] at hWk
                    obtain ⟨p', rfl⟩ := hWk
                    have hk0 := Kd.walk_ne hr
                    have hne : (k != 0) = true := bne_iff_ne.2 hk0
                    have HF : Hid (Kd.walkL (f + 1) (l.drop p) = .inl k) := Lib.hid (by rw [HLi.out, ← HK.out, show N - j = (N - j - 1) + 1 by omega, Kd.many_bad hr])
                    clear hr hk0
                    unfold both
                    go_wp2_with fail
                    go_ret2
                    exact ⟨walked_bad HF.out, bchain HBW.out HB1.out⟩
                  | inr rest =>
                    rw [hr] at hWk
                    obtain ⟨p', rfl, hp', hrest⟩ := hWk
                    have HS : Hid (Kd.many (Kd.walkL f) (N - (j + 1)) (l.drop p') = Kd.many (Kd.walkL f) N (l.drop (p + 1))) := Lib.hid (by rw [← HK.out, show N - j = (N - (j + 1)) + 1 by omega, Kd.many_step hr, hrest])
                    clear hr hrest
                    unfold both
                    go_wp2_with fail
                    go_roundw
                    case rel => exact ⟨p', j + 1, rfl, by go_num, hp', by omega, HS, HB1⟩
                    case measure => simp [intOf]; omega
                · obtain rfl : j = N := by omega
                  have HF : Hid (Kd.walkL (f + 1) (l.drop p) = .inr (l.drop q)) := Lib.hid (by rw [HLi.out, ← HK.out, Nat.sub_self]; rfl)
                  go_wp2_with fail
                  go_ret2
                  exact ⟨walked_at HF.out hq, bchain HBW.out HB.out⟩
          · have HE := Lib.hid (Kd.chk_bad (x := ⟨5, num, .empty, 0, 0, d⟩) (deep := deep) (fun h => absurd h.2 (by omega)) (by show (0 : Int) ≤ 5; omega) (by show (5 : Int) ≤ 5; omega) (fun h => by unfold Kd.good at h; simp [z3] at h))
            have t1 : (d == 0) = false := beq_eq_false_iff_ne.2 z3
            go_enter Try.func12, Try.ntmps12
            go_wp2_with fail
            go_ret2
            exact ⟨walked_bad (by rw [HDr.out, Kd.walk_bad (by rw [HDf.out, HE.out]; omega), HDf.out, HE.out]), below_box (below_box HW.out _) _⟩
        · have HE := Lib.hid (Kd.chk_bad (x := ⟨5, num, .empty, 0, m, d⟩) (deep := deep) (fun h => absurd h.2 (by omega)) (by show (0 : Int) ≤ 5; omega) (by show (5 : Int) ≤ 5; omega) (fun h => by unfold Kd.good at h; simp [z2] at h))
          have t1 : (m == 0) = false := beq_eq_false_iff_ne.2 z2
          go_enter Try.func12, Try.ntmps12
          go_wp2_with fail
          go_ret2
          exact ⟨walked_bad (by rw [HDr.out, Kd.walk_bad (by rw [HDf.out, HE.out]; omega), HDf.out, HE.out]), below_box (below_box HW.out _) _⟩
      · have HE := Lib.hid (Kd.chk_bad (x := ⟨5, num, .empty, y, m, d⟩) (deep := deep) (fun h => absurd h.2 (by omega)) (by show (0 : Int) ≤ 5; omega) (by show (5 : Int) ≤ 5; omega) (fun h => by unfold Kd.good at h; simp [z1] at h))
        have t1 : (y == 0) = false := beq_eq_false_iff_ne.2 z1
        go_enter Try.func12, Try.ntmps12
        go_wp2_with fail
        go_ret2
        exact ⟨walked_bad (by rw [HDr.out, Kd.walk_bad (by rw [HDf.out, HE.out]; omega), HDf.out, HE.out]), below_box (below_box HW.out _) _⟩
    · have HE := Lib.hid (Kd.chk_bad (x := ⟨5, num, text, y, m, d⟩) (deep := deep) (fun h => absurd h.2 (by omega)) (by show (0 : Int) ≤ 5; omega) (by show (5 : Int) ≤ 5; omega) (fun h => by unfold Kd.good at h; simp [z0] at h))
      have t1 : (text.toList == []) = false := beq_eq_false_iff_ne.2 (text_ne z0)
      have t2 : text.toList.isEmpty = false := by
        cases e : text.toList with
        | nil => exact absurd e (text_ne z0)
        | cons _ _ => rfl
      go_enter Try.func12, Try.ntmps12
      go_wp2_with fail
      go_ret2
      exact ⟨walked_bad (by rw [HDr.out, Kd.walk_bad (by rw [HDf.out, HE.out]; omega), HDf.out, HE.out]), below_box (below_box HW.out _) _⟩
set_option maxHeartbeats 4000000 in
theorem walk_other (l : List T) (b off n cap : Nat) (x : T) (f p deep : Nat) (w0 w : World) (hw : Below w0.heap.size w0 w) (hL : Vl.Ls w (some ⟨b, off, none⟩) n cap l) (hp : p < n) (hd : deep + f = 16) (hx : l[p]? = some x) (hk : x.kind < 0 ∨ 5 < x.kind) : walkP (some ⟨b, off, none⟩) n cap l (f + 1) p deep w0 w := by
  have HW := Lib.hid hw
  have HL := Lib.hid hL
  have hcap := hL.reach
  have hfit := hL.fits
  have HN := Lib.hid hL.len
  have hpl : p < l.length := HN.out ▸ hp
  have HDr : Hid (l.drop p = x :: l.drop (p + 1)) := Lib.hid (by
    rw [List.drop_eq_getElem_cons hpl]
    rw [List.getElem?_eq_getElem hpl] at hx
    rw [Option.some.inj hx])
  have hrow := hL.row p hpl
  rw [show l[p] = x from by rw [List.getElem?_eq_getElem hpl] at hx; exact Option.some.inj hx] at hrow
  have hdf : 16 - f = deep := by omega
  have HDf := Lib.hid hdf
  obtain ⟨kind, num, text, y, m, d⟩ := x
  dsimp only at *
  obtain ⟨g0, g1, g2, g3, g4, g5⟩ := hrow
  clear hw hL hx hpl hdf
  unfold walkP
  have HE := Lib.hid (Kd.chk_kind (x := ⟨kind, num, text, y, m, d⟩) (deep := deep) hk)
  have n0 : (kind == 0) = false := beq_eq_false_iff_ne.2 (by omega)
  have n1 : (kind == 1) = false := beq_eq_false_iff_ne.2 (by omega)
  have n2 : (kind == 2) = false := beq_eq_false_iff_ne.2 (by omega)
  have n3 : (kind == 3) = false := beq_eq_false_iff_ne.2 (by omega)
  have n4 : (kind == 4) = false := beq_eq_false_iff_ne.2 (by omega)
  have n5 : (kind == 5) = false := beq_eq_false_iff_ne.2 (by omega)
  clear hk
  go_enter Try.func12, Try.ntmps12
  go_wp2_with fail
  go_ret2
  exact ⟨walked_bad (by rw [HDr.out, Kd.walk_bad (by rw [HDf.out, HE.out]; omega), HDf.out, HE.out]), below_box (below_box HW.out _) _⟩
set_option maxHeartbeats 1000000 in
theorem walk_end (l : List T) (ao : Option Addr) (n cap : Nat) (f p deep : Nat) (w0 w : World) (hw : Below w0.heap.size w0 w) (hL : Vl.Ls w ao n cap l) (hp : n ≤ p) : walkP ao n cap l (f + 1) p deep w0 w := by
  have HW := Lib.hid hw
  have hcap := hL.reach
  have hfit := hL.fits
  have HD : Hid (l.drop p = []) := Lib.hid (List.drop_eq_nil_of_le (by rw [← hL.len]; exact hp))
  clear hw hL
  unfold walkP
  go_enter Try.func12, Try.ntmps12
  go_wp2_with fail
  go_ret2
  exact ⟨walked_bad (by rw [HD.out]; rfl), HW.out⟩
theorem walk_step (l : List T) (ao : Option Addr) (n cap : Nat) (f p deep : Nat) (w0 w : World) (hw : Below w0.heap.size w0 w) (hL : Vl.Ls w ao n cap l) (hn : n ≤ 200) (hp : p ≤ n) (hd : deep + f = 16)
    (ih : ∀ (q : Nat) (v0 v : World), 1 ≤ f → q ≤ n → Below v0.heap.size v0 v → Vl.Ls v ao n cap l → walkP ao n cap l f q (deep + 1) v0 v) : walkP ao n cap l (f + 1) p deep w0 w := by
  by_cases hlt : p < n
  · obtain ⟨b, off, rfl⟩ := hL.at (by omega)
    have hpl : p < l.length := hL.len ▸ hlt
    have hx : l[p]? = some l[p] := List.getElem?_eq_getElem hpl
    have hk : l[p].kind = 0 ∨ l[p].kind = 1 ∨ l[p].kind = 2 ∨ l[p].kind = 3 ∨ l[p].kind = 4 ∨ l[p].kind = 5 ∨ (l[p].kind < 0 ∨ 5 < l[p].kind) := by omega
    rcases hk with h | h | h | h | h | h | h
    · exact walk_kind0 l b off n cap _ f p deep w0 w hw hL hn hlt hd hx h
    · exact walk_kind1 l b off n cap _ f p deep w0 w hw hL hn hlt hd hx h
    · exact walk_kind2 l b off n cap _ f p deep w0 w hw hL hn hlt hd hx h
    · exact walk_kind3 l b off n cap _ f p deep w0 w hw hL hn hlt hd hx h
    · exact walk_kind4 l b off n cap _ f p deep w0 w hw hL hn hlt hd hx h
    · exact walk_lists l b off n cap _ f p deep w0 w hw hL hn hlt hd hx (hL.short _ (List.getElem_mem hpl)) h ih
    · exact walk_other l b off n cap _ f p deep w0 w hw hL hlt hd hx h
  · exact walk_end l ao n cap f p deep w0 w hw hL (by omega)
theorem walk_any (l : List T) (ao : Option Addr) (n cap : Nat) (hn : n ≤ 200) : ∀ (f p deep : Nat) (w0 w : World), deep + f = 16 → p ≤ n → Below w0.heap.size w0 w → Vl.Ls w ao n cap l → walkP ao n cap l (f + 1) p deep w0 w := by
  intro f
  induction f with
  | zero =>
    intro p deep w0 w hd hp hw hL
    exact walk_step l ao n cap 0 p deep w0 w hw hL hn hp hd (fun q v0 v h => absurd h (by omega))
  | succ f ih =>
    intro p deep w0 w hd hp hw hL
    exact walk_step l ao n cap (f + 1) p deep w0 w hw hL hn hp hd (fun q v0 v _ hq hv hV => ih q (deep + 1) v0 v (by omega) hq hv hV)
end Go.Proofs.Ytfmfeagfinnmmab
