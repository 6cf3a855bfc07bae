/- impostref16.RightLetter: what its texts stand on. (By genrl.py.) -/
import Derived.Test.YtagjbjppddbalaaZLt2
import Derived.BigRegion
import Derived.BigQuiet
set_option maxRecDepth 100000
namespace Go.Proofs.Ytagjbjppddbalaa.Lr
open Go.RowKit
open Mem
end Go.Proofs.Ytagjbjppddbalaa.Lr
