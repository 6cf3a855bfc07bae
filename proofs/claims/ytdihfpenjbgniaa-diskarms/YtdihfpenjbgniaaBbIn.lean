/- A LIST OF SLICES OF BYTES THAT CAME IN. -/
import Derived.Test.YtdihfpenjbgniaaByIn
import Derived.Test.YtdihfpenjbgniaaMemL
import Derived.Deep.Slices
namespace Go.Proofs.Ytdihfpenjbgniaa.Bb
open Go.ChangeShapes Go.WideShapes Go.ChangeAt Go.RowKit Mem
set_option maxRecDepth 100000

theorem cellsOf : Try.prog.cellsOf 25 = 1 := by kernel_rfl
/-- a list of slices of bytes, as a contract takes it -/
structure Ls (w : World) (ao : Option Addr) (n cap : Nat) (ps : List (Sl × List UInt8)) : Prop where
  len : n = ps.length
  fits : n ≤ cap
  reach : cap ≤ 9223372036854775807
  seg : ps = [] ∨ ∃ b off, ao = some ⟨b, off, none⟩ ∧ ∀ (k : Nat) (hk : k < ps.length), w.cell? ⟨b, off + k, none⟩ = some (.slice ps[k].1.ao ps[k].1.n ps[k].1.cap)
  each : ∀ q ∈ ps, By.Ls w q.1.ao q.1.n q.1.cap q.2 ∧ q.1.n ≤ 140737488351232
theorem weights_all {H : Type} {P : Program} {e : TypeId} {d : DataW H} {n : Nat} (hn : n ∈ d.weights P e) : ∀ (l : List (DataW H)), d ∈ l → n ∈ DataW.weightsAll P e l
  | x :: l, h => by
    rw [DataW.weightsAll, List.mem_append]
    rcases List.mem_cons.1 h with rfl | h
    · exact .inl hn
    · exact .inr (weights_all hn l h)
theorem list_in {H : Type} {enc : TypeId × Value → H} {W : World} {ao : Option Addr} {n cap : Nat} {d : DataW H} {p : List MemPlace} {ts : List TypeId} {ds : List (DataW H)} (j : Nat)
    (hj : DataW.Trod enc Try.prog W 0 (fun _ => true) true 47 (.slice ao n cap) d p)
    (hsz : (DataW.weightsEach Try.prog ts ds).all (· ≤ reachBytes) = true) (ht : ts[j]? = some 47) (hd : ds[j]? = some d) : ∃ ps, Ls W ao n cap ps := by
  haveI : Inhabited Sl := ⟨⟨none, 0, 0⟩⟩
  obtain ⟨fuel, hf⟩ := hj
  rcases Go.Deep.open_slice Try.underlying47 hf with ⟨hcs, _⟩ | ⟨a, len, c, m, k, D, Pl, hcs, _, hl, hm, hmm, hx, hel⟩
  · simp [Value.cells] at hcs
    obtain ⟨rfl, rfl, rfl⟩ := hcs
    exact ⟨[], rfl, by omega, by omega, .inl rfl, by simp⟩
  · simp [Value.cells] at hcs
    obtain ⟨rfl, rfl, rfl⟩ := hcs
    simp only [if_true] at hmm
    subst hmm
    obtain ⟨R, hR⟩ := Go.Deep.choose_lt (α := Sl) (n := m) (p := fun i s => W.cell? (a.add i) = some (.slice s.ao s.n s.cap) ∧ DataW.Trod enc Try.prog W 0 (fun _ => true) true 25 (.slice s.ao s.n s.cap) (D i) (Pl i)) (fun i hi => by
      obtain ⟨cs', h1, h2⟩ := hel i hi
      rw [cellsOf] at h1
      obtain ⟨_, hlen, hcell⟩ := World.cells?_some h1
      obtain ⟨bo, bn, bc, rfl⟩ : ∃ ao nn cap, cs' = [Value.slice ao nn cap] := by
        rcases Go.Deep.open_slice Try.underlying25 h2 with ⟨hcs, _⟩ | ⟨a, len, c, _, _, _, _, hcs, _⟩
        · exact ⟨_, _, _, hcs⟩
        · exact ⟨_, _, _, hcs⟩
      refine ⟨⟨bo, bn, bc⟩, ?_, ⟨k, h2⟩⟩
      have h3 := hcell 0 (by omega)
      rw [Nat.mul_one] at h3
      simpa [Addr.add] using h3)
    have hd' := congrArg Prod.fst hx
    simp only at hd'
    rw [hd'] at hd
    have hin : ∀ i, i < n → ∀ k, k ∈ (D i).weights Try.prog 25 → decide (k ≤ reachBytes) = true := by
      intro i hi k hk
      refine List.all_eq_true.1 hsz k (DataW.weights_mem_each ht hd k ?_)
      rw [DataW.weights, Try.underlying47]
      refine List.mem_cons_of_mem _ (List.mem_append.2 (.inl (weights_all hk _ ?_)))
      exact List.mem_map.2 ⟨i, List.mem_range.2 hi, rfl⟩
    have hby : ∀ i, i < n → ∃ bs, By.Ls W (R i).ao (R i).n (R i).cap bs ∧ (R i).n ≤ 140737488351232 := by
      intro i hi
      have hz : (DataW.weightsEach Try.prog [25] [D i]).all (· ≤ reachBytes) = true := by
        refine List.all_eq_true.2 fun k hk => ?_
        refine hin i hi k ?_
        simpa [DataW.weightsEach] using hk
      exact By.list_in 0 (hR i (by omega)).2 hz rfl rfl
    obtain ⟨B, hB⟩ := Go.Deep.choose_lt (α := List UInt8) (n := n) (p := fun i bs => By.Ls W (R i).ao (R i).n (R i).cap bs ∧ (R i).n ≤ 140737488351232) (fun i hi => hby i hi)
    refine ⟨(List.range n).map fun i => (R i, B i), by simp, hl, hm, ?_, fun q hq => ?_⟩
    · by_cases h0 : 0 < n
      · obtain ⟨b, off, spot⟩ := a
        have h1 := (hR 0 (by omega)).1
        have hspot : spot = none := by simpa [Addr.add] using World.cell?_spot h1
        subst hspot
        refine .inr ⟨b, off, rfl, fun k hk => ?_⟩
        simp only [List.length_map, List.length_range] at hk
        rw [← Go.WideShapes.add_plain]
        simp only [List.getElem_map, List.getElem_range]
        exact (hR k (by omega)).1
      · exact .inl (by rw [show n = 0 by omega]; rfl)
    · obtain ⟨i, hi, rfl⟩ := List.mem_map.1 hq
      exact hB i (List.mem_range.1 hi)
end Go.Proofs.Ytdihfpenjbgniaa.Bb
