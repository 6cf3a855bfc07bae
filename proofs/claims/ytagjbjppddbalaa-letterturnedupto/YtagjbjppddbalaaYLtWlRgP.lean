/- impostref16.Right OF A HARD. (By genwrg.py.) -/
import Derived.Test.YtagjbjppddbalaaYLtWlRe
set_option maxRecDepth 100000
set_option linter.unusedVariables false
namespace Go.Proofs.Ytagjbjppddbalaa.Wl
open Go.RowKit
open Mem
open Go.Sort (grow)
def rAll (m : Int) : Int → List Et.T → Bool
 | _,[] => true
 | t,e :: l => rEntry e t m && rAll m e.term l
def rHead (h : H) : Bool := !(decide (h.term < 0)) && (!(decide (h.term > 1099511627776)) && (!(decide (h.vote < -1)) && (!(decide (h.vote ≥ 7)) && (!(decide (h.base < 0)) && (!(decide (h.base > 1099511627776)) && (!(decide (h.bt < 0)) && (!(decide (h.bt > h.term)) && (((h.base == 0) == (h.bt == 0)) && (!(decide (h.mem < 1)) && (!(decide (h.mem ≥ 128)) && (((h.base == 0) == (h.snap.toList == [])) && (!(decide ((h.snap.size : Int) > 65536)) && (!(decide ((h.log.length : Int) > 200)) && (!(decide (h.base > 1099511627776 - (h.log.length : Int)))))))))))))))))
def rRight (h : H) : Bool := rHead h && rAll h.term h.bt h.log
theorem entry_ag (x : Et.T) (b m : Int) (hs : Et.Short x) (u : World) (i : Nat) (os : Array Obj) : AnsW 31 #[Et.val x,.int .i64 b,.int .i64 m] u i os (.bool (rEntry x b m)) :=
 Calls.regrown_of (rf_entry x b m _ hs)
end Go.Proofs.Ytagjbjppddbalaa.Wl
