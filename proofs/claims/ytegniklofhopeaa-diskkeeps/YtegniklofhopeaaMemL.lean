/- A SLICE'S OWN THREE: where it lies, how long it is, how much room it has. -/
import Derived.Test.YtegniklofhopeaaMemK
namespace Go.Proofs.Ytegniklofhopeaa.Mem

structure Sl where
  ao : Option Addr
  n : Nat
  cap : Nat
end Go.Proofs.Ytegniklofhopeaa.Mem
