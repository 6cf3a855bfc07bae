/-
  No cell of these rows narrows 'for every input' (looked for: loops, veiled, ifaces, maps, wideKeys, modest, calm, conditions, laid).
  DERIVED. THE GIVEN ROWS OF THIS SEAT. 6 by the template 'for every input the law returns true; each argument reads behind the call as it read before'; 0 by the template 'total and deterministic' (their statements: YthcaecinjmnlbaaTotals.lean).
  GIVEN WITH THE SEED: the statements are not yours to turn. If you find one false, say at which input.
  Laid BY PROGRAM, IN A SANDBOX (cutbox-rows.mjs): the forced cells as the released guide's own fill.sh prints them over the translation b796cb7ae26b61bb… (all of the seat's roots in one cut). By AI agents, Wed Nov 11 2026. No macro, syntax, notation, axiom, sorry.
-/
import Derived.Test.YthcaecinjmnlbaaChecked
import GoSem.Claim
import GoSem.ClaimJoined
import GoSem.ClaimMapViews
import Derived.JoinedTies
import Derived.KernelRfl
namespace Go.Proofs.Ythcaecinjmnlbaa
/- THE CELL 'sum', in the pinned program and in every row, IS THE sha256 OF THE DUMP (.gsa) THAT YthcaecinjmnlbaaProg.lean LOADS. Nothing in Lean hashes anything: it is a label: what it is worth is what the hold of that sum in a sandbox is worth. -/
noncomputable def Try.pinned : Pinned := { name := "ythcaecinjmnlbaa", sum := "b796cb7ae26b61bb5fdf2da8a68dce7f2ada7abc47922c96665b75145cbadd94", checked := Try.checked }
namespace Rows
def none {H : Type} : Left H := { results := [], args := [] }

/-- 'impostlaw11.InvoiceRuns': WHATEVER THE INPUT: true; the input reads as it did. -/
def invoiceRunsSpec : ChangeSpec := { name := "invoiceRuns", fn := fun _ => fun
  | [] => { results := [.lit (.bool true)], args := [] }
  | _ => none }
def invoiceRunsRow : OpenClaim := { program := "ythcaecinjmnlbaa", sum := "b796cb7ae26b61bb5fdf2da8a68dce7f2ada7abc47922c96665b75145cbadd94", func := "impost/impostlaw11.InvoiceRuns", spec := "invoiceRuns", inPlace := ["slices.overlaps[impost/api.Part]"], apart := false }
def InvoiceRunsSaid : Prop := invoiceRunsRow.holds Try.pinned (OpenSpec.ofChange invoiceRunsSpec)

/-- ITS FALSE NEIGHBOUR: 'it returns false'. Refute it at one input. -/
def invoiceRunsWrong : ChangeSpec := { name := "invoiceRuns", fn := fun _ => fun
  | [] => { results := [.lit (.bool false)], args := [] }
  | _ => none }
def InvoiceRunsWrongFalsely : Prop := invoiceRunsRow.holds Try.pinned (OpenSpec.ofChange invoiceRunsWrong)

/-- 'impostlaw11.InvoiceTells': WHATEVER THE INPUT: true; the input reads as it did. -/
def invoiceTellsSpec : ChangeSpec := { name := "invoiceTells", fn := fun _ => fun
  | [d1, d2, d3] => { results := [.lit (.bool true)], args := [d1, d2, d3] }
  | _ => none }
def invoiceTellsRow : OpenClaim := { program := "ythcaecinjmnlbaa", sum := "b796cb7ae26b61bb5fdf2da8a68dce7f2ada7abc47922c96665b75145cbadd94", func := "impost/impostlaw11.InvoiceTells", spec := "invoiceTells", inPlace := ["slices.overlaps[impost/api.Part]"], apart := false }
def InvoiceTellsSaid : Prop := invoiceTellsRow.holds Try.pinned (OpenSpec.ofChange invoiceTellsSpec)

/-- ITS FALSE NEIGHBOUR: 'it returns false'. Refute it at one input. -/
def invoiceTellsWrong : ChangeSpec := { name := "invoiceTells", fn := fun _ => fun
  | [d1, d2, d3] => { results := [.lit (.bool false)], args := [d1, d2, d3] }
  | _ => none }
def InvoiceTellsWrongFalsely : Prop := invoiceTellsRow.holds Try.pinned (OpenSpec.ofChange invoiceTellsWrong)

/-- 'impostlaw11.InvoiceSums': WHATEVER THE INPUT: true; the input reads as it did. -/
def invoiceSumsSpec : ChangeSpec := { name := "invoiceSums", fn := fun _ => fun
  | [d1, d2, d3] => { results := [.lit (.bool true)], args := [d1, d2, d3] }
  | _ => none }
def invoiceSumsRow : OpenClaim := { program := "ythcaecinjmnlbaa", sum := "b796cb7ae26b61bb5fdf2da8a68dce7f2ada7abc47922c96665b75145cbadd94", func := "impost/impostlaw11.InvoiceSums", spec := "invoiceSums", inPlace := ["slices.overlaps[impost/api.Part]"], apart := false }
def InvoiceSumsSaid : Prop := invoiceSumsRow.holds Try.pinned (OpenSpec.ofChange invoiceSumsSpec)

/-- ITS FALSE NEIGHBOUR: 'it returns false'. Refute it at one input. -/
def invoiceSumsWrong : ChangeSpec := { name := "invoiceSums", fn := fun _ => fun
  | [d1, d2, d3] => { results := [.lit (.bool false)], args := [d1, d2, d3] }
  | _ => none }
def InvoiceSumsWrongFalsely : Prop := invoiceSumsRow.holds Try.pinned (OpenSpec.ofChange invoiceSumsWrong)

/-- 'impostlaw11.InvoiceOrder': WHATEVER THE INPUT: true; the input reads as it did. -/
def invoiceOrderSpec : ChangeSpec := { name := "invoiceOrder", fn := fun _ => fun
  | [d1, d2, d3, d4] => { results := [.lit (.bool true)], args := [d1, d2, d3, d4] }
  | _ => none }
def invoiceOrderRow : OpenClaim := { program := "ythcaecinjmnlbaa", sum := "b796cb7ae26b61bb5fdf2da8a68dce7f2ada7abc47922c96665b75145cbadd94", func := "impost/impostlaw11.InvoiceOrder", spec := "invoiceOrder", inPlace := ["slices.overlaps[impost/api.Part]"], apart := false }
def InvoiceOrderSaid : Prop := invoiceOrderRow.holds Try.pinned (OpenSpec.ofChange invoiceOrderSpec)

/-- ITS FALSE NEIGHBOUR: 'it returns false'. Refute it at one input. -/
def invoiceOrderWrong : ChangeSpec := { name := "invoiceOrder", fn := fun _ => fun
  | [d1, d2, d3, d4] => { results := [.lit (.bool false)], args := [d1, d2, d3, d4] }
  | _ => none }
def InvoiceOrderWrongFalsely : Prop := invoiceOrderRow.holds Try.pinned (OpenSpec.ofChange invoiceOrderWrong)

/-- 'impostlaw11.InvoiceBack': WHATEVER THE INPUT: true; the input reads as it did. -/
def invoiceBackSpec : ChangeSpec := { name := "invoiceBack", fn := fun _ => fun
  | [d] => { results := [.lit (.bool true)], args := [d] }
  | _ => none }
def invoiceBackRow : OpenClaim := { program := "ythcaecinjmnlbaa", sum := "b796cb7ae26b61bb5fdf2da8a68dce7f2ada7abc47922c96665b75145cbadd94", func := "impost/impostlaw11.InvoiceBack", spec := "invoiceBack", inPlace := ["slices.overlaps[impost/api.Part]"], apart := false }
def InvoiceBackSaid : Prop := invoiceBackRow.holds Try.pinned (OpenSpec.ofChange invoiceBackSpec)

/-- ITS FALSE NEIGHBOUR: 'it returns false'. Refute it at one input. -/
def invoiceBackWrong : ChangeSpec := { name := "invoiceBack", fn := fun _ => fun
  | [d] => { results := [.lit (.bool false)], args := [d] }
  | _ => none }
def InvoiceBackWrongFalsely : Prop := invoiceBackRow.holds Try.pinned (OpenSpec.ofChange invoiceBackWrong)

/-- 'impostlaw11.InvoiceOne': WHATEVER THE INPUT: true; the input reads as it did. -/
def invoiceOneSpec : ChangeSpec := { name := "invoiceOne", fn := fun _ => fun
  | [d1, d2, d3] => { results := [.lit (.bool true)], args := [d1, d2, d3] }
  | _ => none }
def invoiceOneRow : OpenClaim := { program := "ythcaecinjmnlbaa", sum := "b796cb7ae26b61bb5fdf2da8a68dce7f2ada7abc47922c96665b75145cbadd94", func := "impost/impostlaw11.InvoiceOne", spec := "invoiceOne", inPlace := ["slices.overlaps[impost/api.Part]"], apart := false }
def InvoiceOneSaid : Prop := invoiceOneRow.holds Try.pinned (OpenSpec.ofChange invoiceOneSpec)

/-- ITS FALSE NEIGHBOUR: 'it returns false'. Refute it at one input. -/
def invoiceOneWrong : ChangeSpec := { name := "invoiceOne", fn := fun _ => fun
  | [d1, d2, d3] => { results := [.lit (.bool false)], args := [d1, d2, d3] }
  | _ => none }
def InvoiceOneWrongFalsely : Prop := invoiceOneRow.holds Try.pinned (OpenSpec.ofChange invoiceOneWrong)

/- THE SECOND FORM. 'bulk': how many values and letters a reading holds, each counted each time it is reached (what is shared counts as often as it is met; a slice's spare places count too). A statement '..UptoSaid' is the law's where the arguments, and the package variables that the reading takes, are together of bulk at most 1048576: NARROWER than '..Said'. Prove '..Said' where nothing that the law and all that it calls make is longer than what came in: it says more and counts as full. Else prove '..UptoSaid'. A law counts once. -/
mutual
def uptoBulk {H : Type} : DataW H → Nat
  | .lit (.string bytes) => bytes.length + 1
  | .lit _ => 1
  | .nil => 1
  | .ptr d => uptoBulk d + 1
  | .slice elems spare => uptoBulkAll elems + uptoBulkAll spare + 1
  | .agg parts => uptoBulkAll parts + 1
  | .iface _ d => uptoBulk d + 1
  | .map entries => uptoBulkEntries entries + 1
  | .held _ => 1
def uptoBulkAll {H : Type} : List (DataW H) → Nat
  | [] => 0
  | d :: r => uptoBulk d + uptoBulkAll r
def uptoBulkEntries {H : Type} : List (Lit × DataW H) → Nat
  | [] => 0
  | x :: r => uptoBulkEntry x + uptoBulkEntries r
def uptoBulkEntry {H : Type} : Lit × DataW H → Nat
  | (.string bytes, d) => bytes.length + uptoBulk d + 1
  | (_, d) => uptoBulk d + 1
 end
def uptoSmall : (H : Type) → List (DataW H) → Bool := fun _ ds => decide (uptoBulkAll ds ≤ 1048576)
def OpenSpec.upto (s : _root_.Go.ChangeSpec) : _root_.Go.OpenSpec := { _root_.Go.OpenSpec.ofChange s with cond := some uptoSmall }

/-- 'impostlaw11.InvoiceRuns', WHERE WHAT IT READS IS OF BULK AT MOST 1048576: true; the input reads as it did. -/
def invoiceRunsUptoRow : OpenClaim := { program := "ythcaecinjmnlbaa", sum := "b796cb7ae26b61bb5fdf2da8a68dce7f2ada7abc47922c96665b75145cbadd94", func := "impost/impostlaw11.InvoiceRuns", spec := "invoiceRuns", inPlace := ["slices.overlaps[impost/api.Part]"], apart := false, narrowed := true }
def InvoiceRunsUptoSaid : Prop := invoiceRunsUptoRow.holds Try.pinned (OpenSpec.upto invoiceRunsSpec)

/-- 'impostlaw11.InvoiceTells', WHERE WHAT IT READS IS OF BULK AT MOST 1048576: true; the input reads as it did. -/
def invoiceTellsUptoRow : OpenClaim := { program := "ythcaecinjmnlbaa", sum := "b796cb7ae26b61bb5fdf2da8a68dce7f2ada7abc47922c96665b75145cbadd94", func := "impost/impostlaw11.InvoiceTells", spec := "invoiceTells", inPlace := ["slices.overlaps[impost/api.Part]"], apart := false, narrowed := true }
def InvoiceTellsUptoSaid : Prop := invoiceTellsUptoRow.holds Try.pinned (OpenSpec.upto invoiceTellsSpec)

/-- 'impostlaw11.InvoiceSums', WHERE WHAT IT READS IS OF BULK AT MOST 1048576: true; the input reads as it did. -/
def invoiceSumsUptoRow : OpenClaim := { program := "ythcaecinjmnlbaa", sum := "b796cb7ae26b61bb5fdf2da8a68dce7f2ada7abc47922c96665b75145cbadd94", func := "impost/impostlaw11.InvoiceSums", spec := "invoiceSums", inPlace := ["slices.overlaps[impost/api.Part]"], apart := false, narrowed := true }
def InvoiceSumsUptoSaid : Prop := invoiceSumsUptoRow.holds Try.pinned (OpenSpec.upto invoiceSumsSpec)

/-- 'impostlaw11.InvoiceOrder', WHERE WHAT IT READS IS OF BULK AT MOST 1048576: true; the input reads as it did. -/
def invoiceOrderUptoRow : OpenClaim := { program := "ythcaecinjmnlbaa", sum := "b796cb7ae26b61bb5fdf2da8a68dce7f2ada7abc47922c96665b75145cbadd94", func := "impost/impostlaw11.InvoiceOrder", spec := "invoiceOrder", inPlace := ["slices.overlaps[impost/api.Part]"], apart := false, narrowed := true }
def InvoiceOrderUptoSaid : Prop := invoiceOrderUptoRow.holds Try.pinned (OpenSpec.upto invoiceOrderSpec)

/-- 'impostlaw11.InvoiceBack', WHERE WHAT IT READS IS OF BULK AT MOST 1048576: true; the input reads as it did. -/
def invoiceBackUptoRow : OpenClaim := { program := "ythcaecinjmnlbaa", sum := "b796cb7ae26b61bb5fdf2da8a68dce7f2ada7abc47922c96665b75145cbadd94", func := "impost/impostlaw11.InvoiceBack", spec := "invoiceBack", inPlace := ["slices.overlaps[impost/api.Part]"], apart := false, narrowed := true }
def InvoiceBackUptoSaid : Prop := invoiceBackUptoRow.holds Try.pinned (OpenSpec.upto invoiceBackSpec)

/-- 'impostlaw11.InvoiceOne', WHERE WHAT IT READS IS OF BULK AT MOST 1048576: true; the input reads as it did. -/
def invoiceOneUptoRow : OpenClaim := { program := "ythcaecinjmnlbaa", sum := "b796cb7ae26b61bb5fdf2da8a68dce7f2ada7abc47922c96665b75145cbadd94", func := "impost/impostlaw11.InvoiceOne", spec := "invoiceOne", inPlace := ["slices.overlaps[impost/api.Part]"], apart := false, narrowed := true }
def InvoiceOneUptoSaid : Prop := invoiceOneUptoRow.holds Try.pinned (OpenSpec.upto invoiceOneSpec)

end Rows
end Go.Proofs.Ythcaecinjmnlbaa
