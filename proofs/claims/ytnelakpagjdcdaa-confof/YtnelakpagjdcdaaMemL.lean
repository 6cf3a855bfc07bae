/- A SLICE'S OWN THREE: where it lies, how long it is, how much room it has. -/
import Derived.Test.YtnelakpagjdcdaaMemK
namespace Go.Proofs.Ytnelakpagjdcdaa.Mem

structure Sl where
  ao : Option Addr
  n : Nat
  cap : Nat
end Go.Proofs.Ytnelakpagjdcdaa.Mem
