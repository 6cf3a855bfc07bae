/- CONTRACTS IN THE FORM THAT A REGION WITH AN OPEN ORDER TAKES: the document's own answers. -/
import Derived.Test.YtekegbnmmjhfiaaDAgg
import Derived.Test.YtekegbnmmjhfiaaRefOf
import Derived.Test.YtekegbnmmjhfiaaRefRdAny
namespace Go.Proofs.Ytekegbnmmjhfiaa
open Go.RowKit
open Go.Sort (grow)

variable (y m d : Int) (u : World) (i : Nat) (os : Array Obj)
theorem refRight_agg  : Ans 14 #[.agg #[.int .i64 y, .int .i64 m, .int .i64 d]] u i os (.bool (Dt.rightB y m d)) :=
  Calls.regrown_of (refRight_any y m d _ _ (Below.refl _ _))
theorem refDays_agg  : Ans 15 #[.agg #[.int .i64 y, .int .i64 m, .int .i64 d]] u i os (.int .i64 (Dt.days y m d)) :=
  Calls.regrown_of (refDays_any y m d _ _ (Below.refl _ _))
theorem refShow_agg  : Ans 17 #[.agg #[.int .i64 y, .int .i64 m, .int .i64 d]] u i os (.string ⟨(Dt.shown y m d).toArray⟩) :=
  Calls.regrown_of (refShow_any y m d _ _ (Below.refl _ _))
end Go.Proofs.Ytekegbnmmjhfiaa
