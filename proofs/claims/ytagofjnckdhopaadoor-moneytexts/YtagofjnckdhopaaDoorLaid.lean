/- WHAT THE ROWS LIST: the three tables of the library's; the table of powers of ten as the walks want it; a world in which they lie, for the witness. -/
import Derived.Test.YtagofjnckdhopaaDoorCards
import Derived.Test.YtagofjnckdhopaaDoorTie
import Derived.Test.YtagofjnckdhopaaDoorArgs
import Derived.Test.YtagofjnckdhopaaDoorTxt
import Derived.Deep.DeepHandedRow
import Derived.Stop.LaidErr
namespace Go.Proofs.YtagofjnckdhopaaDoor
open Go.ChangeShapes Go.WideShapes Go.ChangeAt Go.RowKit

def listed : List (String × DataW Unit) := [("math/bits.deBruijn32tab", Rows.laid_math_bits_deBruijn32tab), ("math/bits.deBruijn64tab", Rows.laid_math_bits_deBruijn64tab), ("internal/strconv.uint64pow10", Rows.laid_internal_strconv_uint64pow10)]
theorem gTab : Tryd.prog.globalNamed "internal/strconv.uint64pow10" = some 0 := by kernel_rfl
theorem gTabType : (Tryd.prog.globals[0]?).map (·.type) = some 55 := by kernel_rfl
theorem cellsTab : Tryd.prog.cellsOf 55 = 20 := by kernel_rfl
theorem cells64 : Tryd.prog.cellsOf 39 = 1 := by kernel_rfl
theorem powers : (Rows.laid_internal_strconv_uint64pow10 : DataW Unit) = Lib.tabData .u64 Lib.pow10Tab := by kernel_rfl
theorem tab_of {W : World} (h : laidMetH Tryd.prog listed W) : Tab W := by
  have h' : laidMet Tryd.prog listed W := h
  have h2 := h'.tail.tail
  rw [powers] at h2
  exact Lib.tabIs_of_head (rest := []) gTab gTabType Tryd.underlying55 Tryd.underlying39 cells64 cellsTab h2

/-- the cells of a listed array of numbers -/
def cellsOfData : DataW Unit → Array Value
  | .agg l => (l.map fun | .lit (.int k z) => Value.int k z | _ => .bool false).toArray
  | _ => #[]
def putCells (cs : Array Value) : Obj → Obj
  | .cells _ t frozen => .cells cs t frozen
  | o => o
noncomputable def laidWorld (os : Os) : World :=
  { World.holding Tryd.prog os ⟨#[], #[], []⟩ with heap := (((World.holding Tryd.prog os ⟨#[], #[], []⟩).heap.modify 0 (putCells (cellsOfData Rows.laid_internal_strconv_uint64pow10))).modify 1 (putCells (cellsOfData Rows.laid_math_bits_deBruijn32tab))).modify 2 (putCells (cellsOfData Rows.laid_math_bits_deBruijn64tab)) }
theorem laid_met (os : Os) (args : Array Value) : laidMet Tryd.prog listed ((laidWorld os).forCall (fun _ _ => 0) ⟨#[], args, []⟩).memory :=
  laidMet_of_run' 8 (by kernel_rfl) (by kernel_rfl)
end Go.Proofs.YtagofjnckdhopaaDoor
