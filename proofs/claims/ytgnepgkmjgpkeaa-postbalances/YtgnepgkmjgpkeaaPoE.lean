/- PLAIN LEAN: what a total brings to each account; no Go walked here. -/
import Derived.Test.YtgnepgkmjgpkeaaPo
import Derived.Test.YtgnepgkmjgpkeaaTotK
set_option linter.unusedVariables false
namespace Go.Proofs.Ytgnepgkmjgpkeaa.Po

def owedA : ByteArray := ⟨#[111, 119, 101, 100]⟩
def netA : ByteArray := ⟨#[110, 101, 116, 47]⟩
def taxA : ByteArray := ⟨#[116, 97, 120, 47]⟩
def rowsOf (p : Pt.T) : List Ba.T := [⟨netA ++ p.cat, -p.net⟩, ⟨taxA ++ p.cat, -p.tax⟩]
def entrL (g : Int) (ps : List Pt.T) : List Ba.T := ⟨owedA, g⟩ :: ps.flatMap rowsOf
def badE (p : Pt.T) : Bool := decide (Mn.err (-p.net) ≠ 0 ∨ Mn.err (-p.tax) ≠ 0)
def entrE (ps : List Pt.T) : Int := if ps.any badE = true then 7 else 0
def entrR (g : Int) (ps : List Pt.T) : List Ba.T := if entrE ps = 0 then entrL g ps else []
theorem entr_bad {ps : List Pt.T} {p : Pt.T} (g : Int) (hp : p ∈ ps) (h : badE p = true) : entrE ps = 7 ∧ entrR g ps = [] := by
  have e : entrE ps = 7 := if_pos (List.any_eq_true.2 ⟨p, hp, h⟩)
  exact ⟨e, by unfold entrR; rw [e]; rfl⟩
theorem entr_ok {ps : List Pt.T} (g : Int) (h : ∀ p ∈ ps, badE p = false) : entrE ps = 0 ∧ entrR g ps = entrL g ps := by
  have e : entrE ps = 0 := if_neg (by rw [Bool.not_eq_true, List.any_eq_false]; intro p hp; rw [h p hp]; simp)
  exact ⟨e, by unfold entrR; rw [e]; rfl⟩
theorem bad_no {p : Pt.T} (h1 : Mn.err (-p.net) = 0) (h2 : Mn.err (-p.tax) = 0) : badE p = false := decide_eq_false (by rw [h1, h2]; simp)
theorem bad_yes {p : Pt.T} (h : Mn.err (-p.net) ≠ 0 ∨ Mn.err (-p.tax) ≠ 0) : badE p = true := decide_eq_true h
theorem entr_step (g : Int) (ps : List Pt.T) (k : Nat) (h : k < ps.length) : entrL g (ps.take (k + 1)) = entrL g (ps.take k) ++ rowsOf ps[k] := by
  unfold entrL
  rw [List.take_succ_eq_append_getElem h, List.flatMap_append, List.cons_append]
  simp
theorem rows_sum (p : Pt.T) : sumA (rowsOf p) = -(p.net + p.tax) := by
  show -p.net + (-p.tax + 0) = _
  omega
def both : List Pt.T → Int
  | [] => 0
  | p :: l => p.net + p.tax + both l
theorem entr_sum (g : Int) : ∀ ps : List Pt.T, sumA (entrL g ps) = g - both ps
  | [] => by
    show g + 0 = g - 0
    omega
  | p :: l => by
    have ih := entr_sum g l
    unfold entrL at ih ⊢
    rw [List.flatMap_cons, sumA, sum_app, rows_sum]
    rw [sumA] at ih
    show g + (-(p.net + p.tax) + _) = g - (p.net + p.tax + both l)
    have e : (⟨owedA, g⟩ : Ba.T).amt = g := rfl
    rw [e] at ih
    omega
end Go.Proofs.Ytgnepgkmjgpkeaa.Po
