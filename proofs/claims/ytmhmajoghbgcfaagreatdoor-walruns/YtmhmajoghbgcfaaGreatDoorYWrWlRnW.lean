/- WalRuns, as the frame takes it. -/
import Derived.Test.YtmhmajoghbgcfaaGreatDoorZWr8
namespace Go.Proofs.YtmhmajoghbgcfaaGreatDoor
open Go.RowKit
theorem walRuns_walk (w : World) : Calls Tryz.prog 3 #[] w fun e w' => e = .returned (.bool true) ∧ Below w.heap.size w w' := Wl.walRuns_any w
end Go.Proofs.YtmhmajoghbgcfaaGreatDoor
