/- A REGION's LEXICAL ORDER, ASKED BY A CHEAPER TEST (each pair of operations once): for regions of a hundred operations. -/
import Derived.Test.YtfmfeagfinnmmaaPlain
import Derived.Lib.QuietBelow
namespace Go.Proofs.Ytfmfeagfinnmmaa
open Go

/-- each operation waits on earlier ones alone, and is apart from each later one that does not wait on it -/
def lexL (md : Region.Mode) (ops : Array Oper) : Nat → List Oper → Bool
  | _, [] => true
  | k, o :: l => (o.after.all fun e => !Region.binds md e || decide (e.on < k)) && (l.all fun y => y.after.any (fun e => Region.binds md e && e.on == k) || o.apart ops y) && lexL md ops (k + 1) l
theorem lexFrom_of {md : Region.Mode} {ops : Array Oper} : ∀ (l : List Oper) (k : Nat) (listed : Array Bool), (∀ j, l[j]? = ops[k + j]?) → (∀ i d, i < ops.size → listed.getD i d = decide (i < k)) → listed.size = ops.size → lexL md ops k l = true → Region.lexFrom md ops l.length k listed = true
  | [], k, listed, hl, hd, hs, _ => by
    have hk : ops.size ≤ k := by
      have := hl 0
      simp at this
      exact this
    simp only [List.length_nil, Region.lexFrom, List.isEmpty_iff]
    rw [List.eq_nil_iff_forall_not_mem]
    intro j hj
    obtain ⟨h1, o, ho, _⟩ := mem_ready.1 hj
    have hlt := (Array.getElem?_eq_some_iff.1 ho).1
    rw [hd j true hlt] at h1
    simp at h1
    omega
  | o :: l, k, listed, hl, hd, hs, h => by
    have h0 : ops[k]? = some o := by simpa using (hl 0).symm
    have hlt := (Array.getElem?_eq_some_iff.1 h0).1
    have hl' : ∀ j, l[j]? = ops[k + 1 + j]? := fun j => by
      have := hl (j + 1)
      rw [show k + 1 + j = k + (j + 1) by omega]
      simpa using this
    rw [lexL, Bool.and_eq_true, Bool.and_eq_true] at h
    obtain ⟨⟨h1, h2⟩, h3⟩ := h
    simp only [List.length_cons, Region.lexFrom, Bool.and_eq_true]
    refine ⟨⟨?_, ?_⟩, ?_⟩
    · rw [List.contains_iff_mem, mem_ready]
      refine ⟨by rw [hd k true hlt]; simp, o, h0, fun e he hb => ?_⟩
      have := Array.all_eq_true_iff_forall_mem.1 h1 e he
      rw [hb] at this
      simp at this
      rw [hd _ _ (by omega)]
      simpa using this
    · unfold Region.free
      rw [h0]
      dsimp only
      rw [List.all_eq_true]
      intro j hj
      rw [List.mem_range] at hj
      by_cases hjk : j = k
      · simp [hjk]
      · by_cases hlj : j < k
        · rw [hd j true hj]
          simp [hlj]
        · have e : ops[j]? = l[j - k - 1]? := by
            rw [hl', show k + 1 + (j - k - 1) = j by omega]
          obtain ⟨oj, hoj⟩ : ∃ oj, ops[j]? = some oj := ⟨_, Array.getElem?_eq_getElem hj⟩
          have hm : oj ∈ l := by
            rw [hoj] at e
            exact List.mem_of_getElem? e.symm
          have := List.all_eq_true.1 h2 oj hm
          rw [hoj]
          dsimp only
          rw [this]
          simp
    · refine lexFrom_of l (k + 1) _ hl' (fun i d hi => ?_) (by simpa using hs) h3
      by_cases hik : k = i
      · subst hik
        simp [Array.getD, hs, hlt]
      · rw [getD_set_ne d hik, hd i d hi]
        congr 1
        apply propext
        omega
theorem lexB_of {md : Region.Mode} {l : List Oper} (hs : Region.noSelect l.toArray = true) (h : lexL md l.toArray 0 l = true) : Region.lexB md l.toArray = true := by
  unfold Region.lexB
  rw [hs, Bool.true_and]
  have := lexFrom_of (md := md) (ops := l.toArray) l 0 (Array.replicate l.toArray.size false) (fun j => by simp) (fun i d hi => by
    simp [Array.getD]
    intro h
    simp at hi
    omega) (by simp) h
  simpa using this
/-- the region of a body that bears this number -/
def reg (n : Nat) : Code → List Oper
  | .region id ops _ => if id == n then ops.toList else []
  | .seq a b => reg n a ++ reg n b
  | .cond _ a b => reg n a ++ reg n b
  | .block _ a => reg n a
  | .loop a => reg n a
  | .scope a => reg n a
  | _ => []
end Go.Proofs.Ytfmfeagfinnmmaa
