/- CONTRACTS OF PACKAGE post: order; slices.SortFunc by it, in rows of the call's own. -/
import Derived.Test.YtgnepgkmjgpkeaaPoR
import Derived.Test.YtgnepgkmjgpkeaaBaP
import Derived.Test.YtgnepgkmjgpkeaaShelf
set_option maxRecDepth 100000
set_option linter.unusedVariables false
namespace Go.Proofs.Ytgnepgkmjgpkeaa
open Go.RowKit
open Mem
open Go.Sort (grow heap_grow_old putRowK flatK HoldsK)

def cmpB (x y : Ba.T) : Int := Lib.compareBytes x.acct.data.toList y.acct.data.toList
theorem ltOf_cmp (x y : Ba.T) : ltOf cmpB x y = Po.lt x.acct y.acct := by
  unfold ltOf cmpB Po.lt
  rw [Po.cmp_lt, tl, tl]
  rfl
theorem swo_cmp : Go.Sort.SWO (ltOf cmpB) where
  irrefl x := by rw [ltOf_cmp]; exact Po.lt_irrefl _
  trans x y z h1 h2 := by
    rw [ltOf_cmp] at *
    exact Po.lt_trans h1 h2
  ntrans x y z h1 h2 := by
    rw [ltOf_cmp] at *
    rcases Po.lt_tri y.acct z.acct with h | h | h
    · rw [h2] at h
      cases h
    · rw [← h]
      exact h1
    · rw [Bool.eq_false_iff]
      intro k
      have := Po.lt_trans k h
      rw [h1] at this
      cases this
set_option maxHeartbeats 2000000 in
theorem post_order (x y : Ba.T) (w : World) : Calls Try.prog 32 #[.agg #[.string x.acct, .int .i64 x.amt], .agg #[.string y.acct, .int .i64 y.amt]] w fun e w' => e = .returned (.int .i64 (cmpB x y)) ∧ ∃ q os', w' = grow (w.drewN q) os' := by
  have hcon : ∀ W', Calls Try.prog 36 #[.string x.acct, .string y.acct] W' fun e w' => e = .returned (.int .i64 (cmpB x y)) ∧ w' = W' := fun W' => Try.strings_Compare x.acct y.acct W'
  generalize cmpB x y = r at hcon ⊢
  go_enter Try.func32, Try.ntmps32
  go_wp2_with (go_at_call 36; refine (hcon _).mono ?_; rintro e w' ⟨rfl, rfl⟩)
  go_ret
  exact ⟨rfl, 0, _, by rw [Go.Sort.alloc_eq_grow, Go.Sort.alloc_eq_grow, Go.Sort.grow_grow]; rfl⟩
theorem cmp_lays (blk off size : Nat) (w : World) : CmpLays Try.prog 32 #[] Ba.rv 2 cmpB blk off size w :=
  fun _ _ _ _ x y => post_order x y _
theorem agg_bal (w : World) : (isAgg 33).run Try.prog w = .ok true w := Try.isAgg33 w
theorem own_holds {w : World} {B g n cap : Nat} {M : List Ba.T} (h : Ba.Own w B (.slice (some ⟨g, 0, none⟩) n cap) M) : HoldsK Ba.rv 2 w g 0 M.toArray := by
  intro t ht
  rw [Go.Sort.size_flatK] at ht
  rw [Go.Sort.get_flatK _ _ _ _ ht]
  have ht' : t < M.length * 2 := by simpa using ht
  obtain ⟨k, p, rfl, hp⟩ : ∃ k p, t = k * 2 + p ∧ p < 2 := ⟨t / 2, t % 2, by omega, by omega⟩
  have hk : k < M.length := by omega
  obtain ⟨⟨c0, c1⟩, hf, _⟩ := Ba.own_at h k hk
  have e : M.toArray[k]! = M[k] := by
    rw [getElem!_pos M.toArray k (by simpa using hk)]
    simp
  rw [show (k * 2 + p) / 2 = k by omega, show (k * 2 + p) % 2 = p by omega, e, Nat.zero_add]
  refine ⟨?_, hf _⟩
  rcases (show p = 0 ∨ p = 1 by omega) with rfl | rfl
  · exact c0
  · exact c1
theorem own_sorted {w : World} {B g n cap m : Nat} {M : List Ba.T} (d : Array Ba.T) (os : Array Obj) (h : Ba.Own w B (.slice (some ⟨g, 0, none⟩) n cap) M) (hs : d.size = M.length) : Ba.Own (sortWorldK Ba.rv 2 w g 0 m d os) B (.slice (some ⟨g, 0, none⟩) n cap) d.toList := by
  rcases h.2 with ⟨h', _⟩ | ⟨g', cap', cur, h', hb, hg, hnc, hcm, hcs, htake⟩
  · cases h'
  · simp only [Value.slice.injEq, Option.some.injEq, Addr.mk.injEq, and_true] at h'
    obtain ⟨e1, e2, e3⟩ := h'
    subst e1 e3
    have hlt : g < w.heap.size := by
      obtain ⟨hl, _⟩ := Array.getElem?_eq_some_iff.1 hg
      exact hl
    have hg' : (sortWorldK Ba.rv 2 w g 0 m d os).heap[g]? = some (.cells (Go.Sort.putCells id 0 (flatK Ba.rv 2 d) cur) 33 (0, 0)) := by
      unfold sortWorldK
      rw [heap_grow_old _ _ (by simpa [putRowK] using hlt)]
      show ((w.heap.modify g (Go.Sort.onCells _)))[g]? = _
      rw [Array.getElem?_modify, if_pos rfl, hg]
      rfl
    have hdl : d.toList.length = M.length := by simpa using hs
    refine ⟨by rw [Ba.flat_len], .inr ⟨g, cap, _, by rw [hdl, e2], hb, hg', by rw [hdl]; exact hnc, hcm, by simp [Go.Sort.putCells, hcs], ?_⟩⟩
    rw [hdl]
    apply List.ext_getElem?
    intro t
    by_cases ht : t < M.length * 2
    · obtain ⟨k, p, rfl, hp⟩ : ∃ k p, t = k * 2 + p ∧ p < 2 := ⟨t / 2, t % 2, by omega, by omega⟩
      have hk : k < d.toList.length := by omega
      have hkd : k < d.size := by simpa using hk
      have hc : k * 2 + p < cur.size := by omega
      rw [List.getElem?_take_of_lt ht, Ba.flat_at d.toList k p hk hp]
      unfold Go.Sort.putCells
      rw [Array.getElem?_toList, Array.getElem?_mapIdx, Array.getElem?_eq_getElem hc, Option.map_some, if_pos ⟨Nat.zero_le _, by rw [Go.Sort.size_flatK]; omega⟩, Nat.sub_zero, Go.Sort.get_flatK _ _ _ _ (by omega), show (k * 2 + p) / 2 = k by omega, show (k * 2 + p) % 2 = p by omega, getElem!_pos d k hkd]
      rcases (show p = 0 ∨ p = 1 by omega) with rfl | rfl
      · rfl
      · rfl
    · rw [List.getElem?_eq_none (by rw [List.length_take]; omega), List.getElem?_eq_none (by rw [Ba.flat_len, hdl]; omega)]
theorem below_sorted {B g m : Nat} {w0 w : World} (d : Array Ba.T) (os : Array Obj) (h : Below B w0 w) (hg : B ≤ g) (hlt : g < w.heap.size) : Below B w0 (sortWorldK Ba.rv 2 w g 0 m d os) := by
  refine ⟨h.os, h.tape, h.output, ?_, fun k hk => ?_⟩
  · have := h.size
    simp [sortWorldK, putRowK]
    omega
  · rw [← h.block k hk]
    unfold sortWorldK
    rw [heap_grow_old _ _ (by simp [putRowK]; omega)]
    show ((w.heap.modify g (Go.Sort.onCells _)))[k]? = _
    rw [Array.getElem?_modify, if_neg (by omega)]
/-- slices.SortFunc(rows, order): the same rows, none ahead of a lesser one -/
theorem rows_sort (M : List Ba.T) (B n cap : Nat) (ao : Option Addr) (w0 w : World) (hw : Below B w0 w) (hO : Ba.Own w B (.slice ao n cap) M) (hn : n = M.length) (hm : n ≤ 100000) :
    Calls Try.prog 31 #[.slice ao n cap, .func (.func 32) #[] #[]] w fun e w' => e = .returned (.tuple #[]) ∧
      ∃ D : Array Ba.T, Ba.Own w' B (.slice ao n cap) D.toList ∧ D.toList.Perm M ∧ D.size = M.length ∧ (∀ i j, i < j → j < D.size → Po.lt D[j]!.acct D[i]!.acct = false) ∧ Below B w0 w' := by
  by_cases h0 : n = 0
  · subst h0
    have e : M = [] := List.length_eq_zero_iff.1 hn.symm
    subst e
    refine (AnyF.slices_SortFunc_none Try.sortB ao cap _ w).mono ?_
    rintro e w' ⟨rfl, rfl⟩
    exact ⟨rfl, #[], hO, List.Perm.refl _, rfl, fun i j h1 h2 => absurd h2 (by simp), hw⟩
  · obtain ⟨g, rfl⟩ := Ba.own_some hO (by omega)
    have hB := Ba.own_ge hO g rfl
    have hlt := Ba.own_lt hO
    have hsz : M.toArray.size = n := by simpa using hn.symm
    have eg : ∀ args w, (callFunc 32 args).run Try.prog w = .ok (.enter 32 args) w := enters_of Try.func32 (by kernel_rfl) rfl
    have hcon := AnyQ.slices_SortFunc Try.sortB 2 agg_bal Try.sizeOf33 Ba.rv (fun _ => rfl) (fun x v hv => by unfold Ba.rv at hv; simp at hv; rcases hv with rfl | rfl <;> rfl) cmpB swo_cmp 32 #[] g 0 cap M.toArray w eg (cmp_lays g 0 _ w) (own_holds hO) hlt (by omega)
    rw [hsz] at hcon
    refine hcon.mono ?_
    rintro e w' ⟨rfl, d, m, os, hp, hs, rfl⟩
    have hds : d.size = n := by rw [hp.1, hsz]
    refine ⟨rfl, d, own_sorted d os hO (by omega), ?_, by omega, fun i j h1 h2 => ?_, below_sorted d os hw hB hlt⟩
    · have := hp.2.2
      rw [← hds, Array.extract_size, hds, ← hsz, Array.extract_size] at this
      simpa using this
    · have := hs i j (Nat.zero_le _) h1 (by omega)
      rw [ltOf_cmp] at this
      exact this
end Go.Proofs.Ytgnepgkmjgpkeaa
