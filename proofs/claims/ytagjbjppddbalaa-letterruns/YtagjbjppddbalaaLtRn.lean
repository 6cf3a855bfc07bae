/- LAWS OF PACKAGE letter: LetterRuns. -/
import Derived.Test.YtagjbjppddbalaaLtJ
namespace Go.Proofs.Ytagjbjppddbalaa
open Go.RowKit
open Mem Pk

theorem letterRuns_walk (w : World) : Calls Try.prog 3 #[] w fun e w' => e = .returned (.bool true) ∧ Below w.heap.size w w' := lruns w
end Go.Proofs.Ytagjbjppddbalaa
