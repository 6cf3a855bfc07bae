/- THE DOCUMENT's OWN ANSWER: impostref8.Get. (By genrget.py.) -/
import Derived.Test.YtndfhnaafaijcaaRgA
import Derived.Test.YtndfhnaafaijcaaRgB
import Derived.Test.YtndfhnaafaijcaaRgC
import Derived.Test.YtndfhnaafaijcaaRgF
set_option linter.unusedVariables false
set_option maxRecDepth 100000
namespace Go.Proofs.Ytndfhnaafaijcaa
open Go.RowKit
open Mem Pk Cm

theorem rget_any (bs : List UInt8) (ao : Option Addr) (m cap : Nat) (w : World) (hL : By.Ls w ao m cap bs) : Calls Try.prog 25 #[.slice ao m cap] w (RGetE bs w) := by
  by_cases hb : 1024 < m
  · exact rget_big bs ao m cap w hL hb
  · by_cases he : (rNum bs s0).2.err = 0
    · by_cases hk : 1 ≤ (rNum bs s0).1 ∧ (rNum bs s0).1 ≤ 8
      · rcases Cm.kinds hk.1 hk.2 with h | h | h | h | h | h | h | h
        · exact rget_1 bs ao m cap w hL hb he h
        · exact rget_2 bs ao m cap w hL hb he h
        · exact rget_3 bs ao m cap w hL hb he h
        · exact rget_4 bs ao m cap w hL hb he h
        · exact rget_5 bs ao m cap w hL hb he h
        · exact rget_6 bs ao m cap w hL hb he h
        · exact rget_7 bs ao m cap w hL hb he h
        · exact rget_8 bs ao m cap w hL hb he h
      · exact rget_no bs ao m cap w hL hb he hk
    · exact rget_err bs ao m cap w hL hb he
end Go.Proofs.Ytndfhnaafaijcaa
