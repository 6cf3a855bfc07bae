/-
  No cell of these rows narrows 'for every input' (looked for: loops, veiled, ifaces, maps, wideKeys, modest, calm, conditions, laid).
  DERIVED. THE GIVEN ROWS OF THIS SEAT. 3 by the template 'for every input the law returns true; each argument reads behind the call as it read before'; 0 by the template 'total and deterministic' (their statements: YtgjfljpnlmebhabTotals.lean).
  GIVEN WITH THE SEED: the statements are not yours to turn. If you find one false, say at which input.
  Laid BY PROGRAM, IN A SANDBOX (cutbox-rows.mjs): the forced cells as the released guide's own fill.sh prints them over the translation 693e1bc548ae4eee… (all of the seat's roots in one cut). By AI agents, Wed Nov 11 2026. No macro, syntax, notation, axiom, sorry.
-/
import Derived.Test.YtgjfljpnlmebhabChecked
import GoSem.Claim
import GoSem.ClaimJoined
import GoSem.ClaimMapViews
import Derived.JoinedTies
import Derived.KernelRfl
namespace Go.Proofs.Ytgjfljpnlmebhab
/- THE CELL 'sum', in the pinned program and in every row, IS THE sha256 OF THE DUMP (.gsa) THAT YtgjfljpnlmebhabProg.lean LOADS. Nothing in Lean hashes anything: it is a label: what it is worth is what the hold of that sum in a sandbox is worth. -/
noncomputable def Try.pinned : Pinned := { name := "ytgjfljpnlmebhab", sum := "693e1bc548ae4eeefc46b4d9e3a9208ac010f6a055bbf0e0d4bb06d78933a71a", checked := Try.checked }
namespace Rows
def none {H : Type} : Left H := { results := [], args := [] }

/-- 'impostlaw3.SignWidths': WHATEVER THE INPUT: true; the input reads as it did. -/
def signWidthsSpec : ChangeSpec := { name := "signWidths", fn := fun _ => fun
  | [d] => { results := [.lit (.bool true)], args := [d] }
  | _ => none }
def signWidthsRow : OpenClaim := { program := "ytgjfljpnlmebhab", sum := "693e1bc548ae4eeefc46b4d9e3a9208ac010f6a055bbf0e0d4bb06d78933a71a", func := "impost/impostlaw3.SignWidths", spec := "signWidths", apart := false }
def SignWidthsSaid : Prop := signWidthsRow.holds Try.pinned (OpenSpec.ofChange signWidthsSpec)

/-- ITS FALSE NEIGHBOUR: 'it returns false'. Refute it at one input. -/
def signWidthsWrong : ChangeSpec := { name := "signWidths", fn := fun _ => fun
  | [d] => { results := [.lit (.bool false)], args := [d] }
  | _ => none }
def SignWidthsWrongFalsely : Prop := signWidthsRow.holds Try.pinned (OpenSpec.ofChange signWidthsWrong)

/-- 'impostlaw3.SignNumbers': WHATEVER THE INPUT: true; the input reads as it did. -/
def signNumbersSpec : ChangeSpec := { name := "signNumbers", fn := fun _ => fun
  | [d1, d2, d3] => { results := [.lit (.bool true)], args := [d1, d2, d3] }
  | _ => none }
def signNumbersRow : OpenClaim := { program := "ytgjfljpnlmebhab", sum := "693e1bc548ae4eeefc46b4d9e3a9208ac010f6a055bbf0e0d4bb06d78933a71a", func := "impost/impostlaw3.SignNumbers", spec := "signNumbers", apart := false }
def SignNumbersSaid : Prop := signNumbersRow.holds Try.pinned (OpenSpec.ofChange signNumbersSpec)

/-- ITS FALSE NEIGHBOUR: 'it returns false'. Refute it at one input. -/
def signNumbersWrong : ChangeSpec := { name := "signNumbers", fn := fun _ => fun
  | [d1, d2, d3] => { results := [.lit (.bool false)], args := [d1, d2, d3] }
  | _ => none }
def SignNumbersWrongFalsely : Prop := signNumbersRow.holds Try.pinned (OpenSpec.ofChange signNumbersWrong)

/-- 'impostlaw3.SignJoins': WHATEVER THE INPUT: true; the input reads as it did. -/
def signJoinsSpec : ChangeSpec := { name := "signJoins", fn := fun _ => fun
  | [d1, d2, d3] => { results := [.lit (.bool true)], args := [d1, d2, d3] }
  | _ => none }
def signJoinsRow : OpenClaim := { program := "ytgjfljpnlmebhab", sum := "693e1bc548ae4eeefc46b4d9e3a9208ac010f6a055bbf0e0d4bb06d78933a71a", func := "impost/impostlaw3.SignJoins", spec := "signJoins", apart := false }
def SignJoinsSaid : Prop := signJoinsRow.holds Try.pinned (OpenSpec.ofChange signJoinsSpec)

/-- ITS FALSE NEIGHBOUR: 'it returns false'. Refute it at one input. -/
def signJoinsWrong : ChangeSpec := { name := "signJoins", fn := fun _ => fun
  | [d1, d2, d3] => { results := [.lit (.bool false)], args := [d1, d2, d3] }
  | _ => none }
def SignJoinsWrongFalsely : Prop := signJoinsRow.holds Try.pinned (OpenSpec.ofChange signJoinsWrong)

/- THE SECOND FORM. 'bulk': how many values and letters a reading holds, each counted each time it is reached (what is shared counts as often as it is met; a slice's spare places count too). A statement '..UptoSaid' is the law's where the arguments, and the package variables that the reading takes, are together of bulk at most 1048576: NARROWER than '..Said'. Prove '..Said' where nothing that the law and all that it calls make is longer than what came in: it says more and counts as full. Else prove '..UptoSaid'. A law counts once. -/
mutual
def uptoBulk {H : Type} : DataW H → Nat
  | .lit (.string bytes) => bytes.length + 1
  | .lit _ => 1
  | .nil => 1
  | .ptr d => uptoBulk d + 1
  | .slice elems spare => uptoBulkAll elems + uptoBulkAll spare + 1
  | .agg parts => uptoBulkAll parts + 1
  | .iface _ d => uptoBulk d + 1
  | .map entries => uptoBulkEntries entries + 1
  | .held _ => 1
def uptoBulkAll {H : Type} : List (DataW H) → Nat
  | [] => 0
  | d :: r => uptoBulk d + uptoBulkAll r
def uptoBulkEntries {H : Type} : List (Lit × DataW H) → Nat
  | [] => 0
  | x :: r => uptoBulkEntry x + uptoBulkEntries r
def uptoBulkEntry {H : Type} : Lit × DataW H → Nat
  | (.string bytes, d) => bytes.length + uptoBulk d + 1
  | (_, d) => uptoBulk d + 1
 end
def uptoSmall : (H : Type) → List (DataW H) → Bool := fun _ ds => decide (uptoBulkAll ds ≤ 1048576)
def OpenSpec.upto (s : _root_.Go.ChangeSpec) : _root_.Go.OpenSpec := { _root_.Go.OpenSpec.ofChange s with cond := some uptoSmall }

/-- 'impostlaw3.SignWidths', WHERE WHAT IT READS IS OF BULK AT MOST 1048576: true; the input reads as it did. -/
def signWidthsUptoRow : OpenClaim := { program := "ytgjfljpnlmebhab", sum := "693e1bc548ae4eeefc46b4d9e3a9208ac010f6a055bbf0e0d4bb06d78933a71a", func := "impost/impostlaw3.SignWidths", spec := "signWidths", apart := false, narrowed := true }
def SignWidthsUptoSaid : Prop := signWidthsUptoRow.holds Try.pinned (OpenSpec.upto signWidthsSpec)

/-- 'impostlaw3.SignNumbers', WHERE WHAT IT READS IS OF BULK AT MOST 1048576: true; the input reads as it did. -/
def signNumbersUptoRow : OpenClaim := { program := "ytgjfljpnlmebhab", sum := "693e1bc548ae4eeefc46b4d9e3a9208ac010f6a055bbf0e0d4bb06d78933a71a", func := "impost/impostlaw3.SignNumbers", spec := "signNumbers", apart := false, narrowed := true }
def SignNumbersUptoSaid : Prop := signNumbersUptoRow.holds Try.pinned (OpenSpec.upto signNumbersSpec)

/-- 'impostlaw3.SignJoins', WHERE WHAT IT READS IS OF BULK AT MOST 1048576: true; the input reads as it did. -/
def signJoinsUptoRow : OpenClaim := { program := "ytgjfljpnlmebhab", sum := "693e1bc548ae4eeefc46b4d9e3a9208ac010f6a055bbf0e0d4bb06d78933a71a", func := "impost/impostlaw3.SignJoins", spec := "signJoins", apart := false, narrowed := true }
def SignJoinsUptoSaid : Prop := signJoinsUptoRow.holds Try.pinned (OpenSpec.upto signJoinsSpec)

end Rows
end Go.Proofs.Ytgjfljpnlmebhab
