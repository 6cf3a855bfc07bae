/- A SLICE'S OWN THREE: where it lies, how long it is, how much room it has. -/
import Derived.Test.YtagjbjppddbalaaMemK
namespace Go.Proofs.Ytagjbjppddbalaa.Mem

structure Sl where
  ao : Option Addr
  n : Nat
  cap : Nat
end Go.Proofs.Ytagjbjppddbalaa.Mem
