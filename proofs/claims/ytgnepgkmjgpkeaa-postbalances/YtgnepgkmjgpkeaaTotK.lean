/- PLAIN LEAN: a total told plainly; no Go here. -/
import Derived.Test.YtgnepgkmjgpkeaaPtK
namespace Go.Proofs.Ytgnepgkmjgpkeaa.Iv
/-- a total told plainly -/
structure Tot where
  net : Int
  tax : Int
  gross : Int
  parts : List Pt.T
def Tot.zero : Tot := ⟨0, 0, 0, []⟩
end Go.Proofs.Ytgnepgkmjgpkeaa.Iv
