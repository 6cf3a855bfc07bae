/- THE DOCUMENT's OWN ANSWER: impostref8's Keep. -/
import Derived.Test.YtfilanbjfnnknaaRfFr
import Derived.Deep.RegionHeld3
set_option linter.unusedVariables false
set_option maxRecDepth 100000
namespace Go.Proofs.Ytfilanbjfnnknaa
open Go.RowKit
open Mem

theorem Sn.own_keep {u : World} {B g n cap : Nat} {M : List Sn.T} (h : Sn.Own u B (.slice (some ⟨g, 0, none⟩) n cap) M) (k : Nat) (hk : k < M.length) (i q y m s : Int) (hi : M[k].id = i) :
    Sn.Own ((((u.setCell ⟨g, k * 5 + 1, none⟩ (.int .i64 q)).setCell ⟨g, k * 5 + 2, none⟩ (.int .i64 y)).setCell ⟨g, k * 5 + 3, none⟩ (.int .i64 m)).setCell ⟨g, k * 5 + 4, none⟩ (.int .i64 s)) B (.slice (some ⟨g, 0, none⟩) n cap) (M.set k ⟨i, q, y, m, s⟩) := by
  subst hi
  have h1 := Sn.own_put h k 1 hk (by omega) (.int .i64 q) ⟨M[k].id, q, M[k].why, M[k].num, M[k].gross⟩ rfl
  have h2 := Sn.own_put h1 k 2 (by rw [List.length_set]; exact hk) (by omega) (.int .i64 y) ⟨M[k].id, q, y, M[k].num, M[k].gross⟩ (by rw [List.getElem_set_self]; rfl)
  rw [List.set_set] at h2
  have h3 := Sn.own_put h2 k 3 (by rw [List.length_set]; exact hk) (by omega) (.int .i64 m) ⟨M[k].id, q, y, m, M[k].gross⟩ (by rw [List.getElem_set_self]; rfl)
  rw [List.set_set] at h3
  have h4 := Sn.own_put h3 k 4 (by rw [List.length_set]; exact hk) (by omega) (.int .i64 s) ⟨M[k].id, q, y, m, s⟩ (by rw [List.getElem_set_self]; rfl)
  rw [List.set_set] at h4
  exact h4
set_option maxHeartbeats 4000000 in
theorem rses_keep (ls : List Sn.T) (i q : Int) (r : Rp.T) (ao : Option Addr) (n cap : Nat) (w : World) (hL : Sn.Ls w ao n cap ls) (hn : n ≤ 1000) (hx : Sp.ix i ls < ls.length) :
    Calls Try.prog 18 #[.slice ao n cap, .int .i64 i, .int .i64 q, Rp.val r] w fun e w' => ∃ v, e = .returned v ∧ Sn.Own w' w.heap.size v (ls.set (Sp.ix i ls) ⟨i, q, r.why, r.num, r.gross⟩) ∧ Below w.heap.size w w' := by
  obtain ⟨U, hU, hbU, hCU⟩ := Rp.boxed1 w r
  have HL := Lib.hid (hL.below hbU)
  have HN := Lib.hid hL.len
  have HSh := Lib.hid hL.short
  have HBU := Lib.hid hbU
  have HCU := Lib.hid hCU
  have hcap := hL.reach
  have hfit := hL.fits
  have HX := Lib.hid hx
  have hsz : w.heap.size ≤ U.heap.size := hbU.size
  clear hL hbU hCU hx
  unfold Rp.val
  go_enter Try.func18, Try.ntmps18
  go_wp2_with (at_builtin; go_must (refine Sn.wpList_append _ rfl (.tmp 11) (.tmp 12) rfl U.heap.size (.slice (some ⟨U.heap.size, 0, none⟩) 0 0) [] rfl (Sn.own_empty (Nat.le_refl _) (heap_alloc_new U _)) ao n cap ls rfl HN.out HL.out.nil ((HL.out.below ((Below.refl _ _).alloc (Nat.le_refl _) _)).seg) (by simp only [List.length_nil]; omega) (by simp) ?_))
  intro v1 w2 o1 gr1 _
  have hB2 : Below U.heap.size U w2 := (below_box (Below.refl _ _) _).grown gr1 (by simp) (fun j hj => by simp only [Value.ownBlock, Option.some.injEq] at hj; omega)
  try rw [List.nil_append] at o1
  obtain ⟨va, vc, hv1, hV, _⟩ := Sn.own_ls o1 HSh.out
  subst hv1
  have hin : Sp.ix i ls < n := by have := HN.out; have := HX.out; omega
  obtain ⟨g, rfl⟩ : ∃ g, va = some ⟨g, 0, none⟩ := by
    rcases o1.2 with ⟨h', h0⟩ | ⟨g, c', cu, h', _⟩
    · have := HX.out
      omega
    · cases h'
      exact ⟨g, rfl⟩
  have HO1 := Lib.hid o1
  have HB2 := Lib.hid hB2
  have HV := Lib.hid hV
  have hvf := hV.fits
  have hvr := hV.reach
  rw [← HN.out] at HO1 HV hvf
  rw [← HN.out]
  clear gr1 o1 hV hB2 hU
  go_wp2_with fail
  refine (rseat ls i _ n vc w2 HV.out).mono ?_
  rintro e w3 ⟨rfl, hw3⟩
  have hw4 := hw3.symm
  clear hw3
  subst hw4
  rw [Sp.pos_at HX.out]
  obtain ⟨hAt, hfz, hge⟩ := Sn.own_at HO1.out (Sp.ix i ls) HX.out
  have HPut := Lib.hid (Sn.own_keep HO1.out (Sp.ix i ls) HX.out i q r.why r.num r.gross (Sp.ix_id HX.out))
  generalize ls[Sp.ix i ls]'HX.out = x at hAt
  obtain ⟨k, hk⟩ : ∃ k, Sp.ix i ls = k := ⟨_, rfl⟩
  have HK := Lib.hid hk
  rw [hk] at hAt HPut hin
  rw [hk]
  have hCc := HCU.out.below HB2.out
  unfold Rp.C at hCc
  obtain ⟨b0, b1, b2⟩ := hCc
  obtain ⟨c0, c1, c2, c3, c4⟩ := hAt
  have f1 := hfz (k * 5 + 1)
  have f2 := hfz (k * 5 + 2)
  have f3 := hfz (k * 5 + 3)
  have f4 := hfz (k * 5 + 4)
  have hne : ¬ w.heap.size = g := by
    have h1 : w.heap.size < U.heap.size := cell_lt HCU.out.1
    omega
  have HGe := Lib.hid hge
  clear hk hfz
  go_wp2_with fail
  go_region
  go_wp2_with fail
  go_ret
  refine ⟨_, rfl, ?_, ?_⟩
  · rw [HK.out]
    exact Sn.own_mono HPut.out hsz
  · exact ((((bchain HBU.out HB2.out).setCell (Nat.le_trans hsz HGe.out) _).setCell (Nat.le_trans hsz HGe.out) _).setCell (Nat.le_trans hsz HGe.out) _).setCell (Nat.le_trans hsz HGe.out) _ |>.drew
end Go.Proofs.Ytfilanbjfnnknaa
