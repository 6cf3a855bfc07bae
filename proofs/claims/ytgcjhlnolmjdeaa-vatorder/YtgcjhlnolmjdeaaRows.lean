/-
  No cell of these rows narrows 'for every input' (looked for: loops, veiled, ifaces, maps, wideKeys, modest, calm, conditions, laid).
  DERIVED. THE GIVEN ROWS OF THIS SEAT. 6 by the template 'for every input the law returns true; each argument reads behind the call as it read before'; 0 by the template 'total and deterministic' (their statements: YtgcjhlnolmjdeaaTotals.lean).
  GIVEN WITH THE SEED: the statements are not yours to turn. If you find one false, say at which input.
  Laid BY PROGRAM, IN A SANDBOX (cutbox-rows.mjs): the forced cells as the released guide's own fill.sh prints them over the translation dee9dc68a59c7acc… (all of the seat's roots in one cut). By AI agents, Wed Nov 11 2026. No macro, syntax, notation, axiom, sorry.
-/
import Derived.Test.YtgcjhlnolmjdeaaChecked
import GoSem.Claim
import GoSem.ClaimJoined
import GoSem.ClaimMapViews
import Derived.JoinedTies
import Derived.KernelRfl
namespace Go.Proofs.Ytgcjhlnolmjdeaa
/- THE CELL 'sum', in the pinned program and in every row, IS THE sha256 OF THE DUMP (.gsa) THAT YtgcjhlnolmjdeaaProg.lean LOADS. Nothing in Lean hashes anything: it is a label: what it is worth is what the hold of that sum in a sandbox is worth. -/
noncomputable def Try.pinned : Pinned := { name := "ytgcjhlnolmjdeaa", sum := "dee9dc68a59c7acc572d575ef2183434676f2fad115babf69f5fc112ce966d5b", checked := Try.checked }
namespace Rows
def none {H : Type} : Left H := { results := [], args := [] }

/-- 'impostlaw7.VatRuns': WHATEVER THE INPUT: true; the input reads as it did. -/
def vatRunsSpec : ChangeSpec := { name := "vatRuns", fn := fun _ => fun
  | [] => { results := [.lit (.bool true)], args := [] }
  | _ => none }
def vatRunsRow : OpenClaim := { program := "ytgcjhlnolmjdeaa", sum := "dee9dc68a59c7acc572d575ef2183434676f2fad115babf69f5fc112ce966d5b", func := "impost/impostlaw7.VatRuns", spec := "vatRuns", apart := false }
def VatRunsSaid : Prop := vatRunsRow.holds Try.pinned (OpenSpec.ofChange vatRunsSpec)

/-- ITS FALSE NEIGHBOUR: 'it returns false'. Refute it at one input. -/
def vatRunsWrong : ChangeSpec := { name := "vatRuns", fn := fun _ => fun
  | [] => { results := [.lit (.bool false)], args := [] }
  | _ => none }
def VatRunsWrongFalsely : Prop := vatRunsRow.holds Try.pinned (OpenSpec.ofChange vatRunsWrong)

/-- 'impostlaw7.VatTells': WHATEVER THE INPUT: true; the input reads as it did. -/
def vatTellsSpec : ChangeSpec := { name := "vatTells", fn := fun _ => fun
  | [d1, d2, d3] => { results := [.lit (.bool true)], args := [d1, d2, d3] }
  | _ => none }
def vatTellsRow : OpenClaim := { program := "ytgcjhlnolmjdeaa", sum := "dee9dc68a59c7acc572d575ef2183434676f2fad115babf69f5fc112ce966d5b", func := "impost/impostlaw7.VatTells", spec := "vatTells", apart := false }
def VatTellsSaid : Prop := vatTellsRow.holds Try.pinned (OpenSpec.ofChange vatTellsSpec)

/-- ITS FALSE NEIGHBOUR: 'it returns false'. Refute it at one input. -/
def vatTellsWrong : ChangeSpec := { name := "vatTells", fn := fun _ => fun
  | [d1, d2, d3] => { results := [.lit (.bool false)], args := [d1, d2, d3] }
  | _ => none }
def VatTellsWrongFalsely : Prop := vatTellsRow.holds Try.pinned (OpenSpec.ofChange vatTellsWrong)

/-- 'impostlaw7.VatPuts': WHATEVER THE INPUT: true; the input reads as it did. -/
def vatPutsSpec : ChangeSpec := { name := "vatPuts", fn := fun _ => fun
  | [d1, d2] => { results := [.lit (.bool true)], args := [d1, d2] }
  | _ => none }
def vatPutsRow : OpenClaim := { program := "ytgcjhlnolmjdeaa", sum := "dee9dc68a59c7acc572d575ef2183434676f2fad115babf69f5fc112ce966d5b", func := "impost/impostlaw7.VatPuts", spec := "vatPuts", apart := false }
def VatPutsSaid : Prop := vatPutsRow.holds Try.pinned (OpenSpec.ofChange vatPutsSpec)

/-- ITS FALSE NEIGHBOUR: 'it returns false'. Refute it at one input. -/
def vatPutsWrong : ChangeSpec := { name := "vatPuts", fn := fun _ => fun
  | [d1, d2] => { results := [.lit (.bool false)], args := [d1, d2] }
  | _ => none }
def VatPutsWrongFalsely : Prop := vatPutsRow.holds Try.pinned (OpenSpec.ofChange vatPutsWrong)

/-- 'impostlaw7.VatGrows': WHATEVER THE INPUT: true; the input reads as it did. -/
def vatGrowsSpec : ChangeSpec := { name := "vatGrows", fn := fun _ => fun
  | [d1, d2, d3, d4] => { results := [.lit (.bool true)], args := [d1, d2, d3, d4] }
  | _ => none }
def vatGrowsRow : OpenClaim := { program := "ytgcjhlnolmjdeaa", sum := "dee9dc68a59c7acc572d575ef2183434676f2fad115babf69f5fc112ce966d5b", func := "impost/impostlaw7.VatGrows", spec := "vatGrows", apart := false }
def VatGrowsSaid : Prop := vatGrowsRow.holds Try.pinned (OpenSpec.ofChange vatGrowsSpec)

/-- ITS FALSE NEIGHBOUR: 'it returns false'. Refute it at one input. -/
def vatGrowsWrong : ChangeSpec := { name := "vatGrows", fn := fun _ => fun
  | [d1, d2, d3, d4] => { results := [.lit (.bool false)], args := [d1, d2, d3, d4] }
  | _ => none }
def VatGrowsWrongFalsely : Prop := vatGrowsRow.holds Try.pinned (OpenSpec.ofChange vatGrowsWrong)

/-- 'impostlaw7.VatOrder': WHATEVER THE INPUT: true; the input reads as it did. -/
def vatOrderSpec : ChangeSpec := { name := "vatOrder", fn := fun _ => fun
  | [d1, d2] => { results := [.lit (.bool true)], args := [d1, d2] }
  | _ => none }
def vatOrderRow : OpenClaim := { program := "ytgcjhlnolmjdeaa", sum := "dee9dc68a59c7acc572d575ef2183434676f2fad115babf69f5fc112ce966d5b", func := "impost/impostlaw7.VatOrder", spec := "vatOrder", apart := false }
def VatOrderSaid : Prop := vatOrderRow.holds Try.pinned (OpenSpec.ofChange vatOrderSpec)

/-- ITS FALSE NEIGHBOUR: 'it returns false'. Refute it at one input. -/
def vatOrderWrong : ChangeSpec := { name := "vatOrder", fn := fun _ => fun
  | [d1, d2] => { results := [.lit (.bool false)], args := [d1, d2] }
  | _ => none }
def VatOrderWrongFalsely : Prop := vatOrderRow.holds Try.pinned (OpenSpec.ofChange vatOrderWrong)

/-- 'impostlaw7.VatLast': WHATEVER THE INPUT: true; the input reads as it did. -/
def vatLastSpec : ChangeSpec := { name := "vatLast", fn := fun _ => fun
  | [d1, d2, d3] => { results := [.lit (.bool true)], args := [d1, d2, d3] }
  | _ => none }
def vatLastRow : OpenClaim := { program := "ytgcjhlnolmjdeaa", sum := "dee9dc68a59c7acc572d575ef2183434676f2fad115babf69f5fc112ce966d5b", func := "impost/impostlaw7.VatLast", spec := "vatLast", apart := false }
def VatLastSaid : Prop := vatLastRow.holds Try.pinned (OpenSpec.ofChange vatLastSpec)

/-- ITS FALSE NEIGHBOUR: 'it returns false'. Refute it at one input. -/
def vatLastWrong : ChangeSpec := { name := "vatLast", fn := fun _ => fun
  | [d1, d2, d3] => { results := [.lit (.bool false)], args := [d1, d2, d3] }
  | _ => none }
def VatLastWrongFalsely : Prop := vatLastRow.holds Try.pinned (OpenSpec.ofChange vatLastWrong)

/- THE SECOND FORM. 'bulk': how many values and letters a reading holds, each counted each time it is reached (what is shared counts as often as it is met; a slice's spare places count too). A statement '..UptoSaid' is the law's where the arguments, and the package variables that the reading takes, are together of bulk at most 1048576: NARROWER than '..Said'. Prove '..Said' where nothing that the law and all that it calls make is longer than what came in: it says more and counts as full. Else prove '..UptoSaid'. A law counts once. -/
mutual
def uptoBulk {H : Type} : DataW H → Nat
  | .lit (.string bytes) => bytes.length + 1
  | .lit _ => 1
  | .nil => 1
  | .ptr d => uptoBulk d + 1
  | .slice elems spare => uptoBulkAll elems + uptoBulkAll spare + 1
  | .agg parts => uptoBulkAll parts + 1
  | .iface _ d => uptoBulk d + 1
  | .map entries => uptoBulkEntries entries + 1
  | .held _ => 1
def uptoBulkAll {H : Type} : List (DataW H) → Nat
  | [] => 0
  | d :: r => uptoBulk d + uptoBulkAll r
def uptoBulkEntries {H : Type} : List (Lit × DataW H) → Nat
  | [] => 0
  | x :: r => uptoBulkEntry x + uptoBulkEntries r
def uptoBulkEntry {H : Type} : Lit × DataW H → Nat
  | (.string bytes, d) => bytes.length + uptoBulk d + 1
  | (_, d) => uptoBulk d + 1
 end
def uptoSmall : (H : Type) → List (DataW H) → Bool := fun _ ds => decide (uptoBulkAll ds ≤ 1048576)
def OpenSpec.upto (s : _root_.Go.ChangeSpec) : _root_.Go.OpenSpec := { _root_.Go.OpenSpec.ofChange s with cond := some uptoSmall }

/-- 'impostlaw7.VatRuns', WHERE WHAT IT READS IS OF BULK AT MOST 1048576: true; the input reads as it did. -/
def vatRunsUptoRow : OpenClaim := { program := "ytgcjhlnolmjdeaa", sum := "dee9dc68a59c7acc572d575ef2183434676f2fad115babf69f5fc112ce966d5b", func := "impost/impostlaw7.VatRuns", spec := "vatRuns", apart := false, narrowed := true }
def VatRunsUptoSaid : Prop := vatRunsUptoRow.holds Try.pinned (OpenSpec.upto vatRunsSpec)

/-- 'impostlaw7.VatTells', WHERE WHAT IT READS IS OF BULK AT MOST 1048576: true; the input reads as it did. -/
def vatTellsUptoRow : OpenClaim := { program := "ytgcjhlnolmjdeaa", sum := "dee9dc68a59c7acc572d575ef2183434676f2fad115babf69f5fc112ce966d5b", func := "impost/impostlaw7.VatTells", spec := "vatTells", apart := false, narrowed := true }
def VatTellsUptoSaid : Prop := vatTellsUptoRow.holds Try.pinned (OpenSpec.upto vatTellsSpec)

/-- 'impostlaw7.VatPuts', WHERE WHAT IT READS IS OF BULK AT MOST 1048576: true; the input reads as it did. -/
def vatPutsUptoRow : OpenClaim := { program := "ytgcjhlnolmjdeaa", sum := "dee9dc68a59c7acc572d575ef2183434676f2fad115babf69f5fc112ce966d5b", func := "impost/impostlaw7.VatPuts", spec := "vatPuts", apart := false, narrowed := true }
def VatPutsUptoSaid : Prop := vatPutsUptoRow.holds Try.pinned (OpenSpec.upto vatPutsSpec)

/-- 'impostlaw7.VatGrows', WHERE WHAT IT READS IS OF BULK AT MOST 1048576: true; the input reads as it did. -/
def vatGrowsUptoRow : OpenClaim := { program := "ytgcjhlnolmjdeaa", sum := "dee9dc68a59c7acc572d575ef2183434676f2fad115babf69f5fc112ce966d5b", func := "impost/impostlaw7.VatGrows", spec := "vatGrows", apart := false, narrowed := true }
def VatGrowsUptoSaid : Prop := vatGrowsUptoRow.holds Try.pinned (OpenSpec.upto vatGrowsSpec)

/-- 'impostlaw7.VatOrder', WHERE WHAT IT READS IS OF BULK AT MOST 1048576: true; the input reads as it did. -/
def vatOrderUptoRow : OpenClaim := { program := "ytgcjhlnolmjdeaa", sum := "dee9dc68a59c7acc572d575ef2183434676f2fad115babf69f5fc112ce966d5b", func := "impost/impostlaw7.VatOrder", spec := "vatOrder", apart := false, narrowed := true }
def VatOrderUptoSaid : Prop := vatOrderUptoRow.holds Try.pinned (OpenSpec.upto vatOrderSpec)

/-- 'impostlaw7.VatLast', WHERE WHAT IT READS IS OF BULK AT MOST 1048576: true; the input reads as it did. -/
def vatLastUptoRow : OpenClaim := { program := "ytgcjhlnolmjdeaa", sum := "dee9dc68a59c7acc572d575ef2183434676f2fad115babf69f5fc112ce966d5b", func := "impost/impostlaw7.VatLast", spec := "vatLast", apart := false, narrowed := true }
def VatLastUptoSaid : Prop := vatLastUptoRow.holds Try.pinned (OpenSpec.upto vatLastSpec)

end Rows
end Go.Proofs.Ytgcjhlnolmjdeaa
