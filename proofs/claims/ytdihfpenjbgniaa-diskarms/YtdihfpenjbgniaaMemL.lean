/- A SLICE'S OWN THREE: where it lies, how long it is, how much room it has. -/
import Derived.Test.YtdihfpenjbgniaaMemK
namespace Go.Proofs.Ytdihfpenjbgniaa.Mem

structure Sl where
  ao : Option Addr
  n : Nat
  cap : Nat
end Go.Proofs.Ytdihfpenjbgniaa.Mem
