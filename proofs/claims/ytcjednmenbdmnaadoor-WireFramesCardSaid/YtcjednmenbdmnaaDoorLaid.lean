import Derived.Test.YtcjednmenbdmnaaDoorCards
import Derived.Test.YtcjednmenbdmnaaDoorTie
import Derived.Test.YtcjednmenbdmnaaDoorFrw
import Derived.Test.YtcjednmenbdmnaaDoorIn
import Derived.Deep.DeepHandedRow
import Derived.Lib.LaidTab
namespace Go.Proofs.YtcjednmenbdmnaaDoor
open Go.ChangeShapes Go.WideShapes Go.ChangeAt Go.RowKit Go.Mem

theorem own : ownKnob Tryd.prog.godebug = none := by kernel_rfl
theorem laidOut : laidOutB Tryd.prog = true := by kernel_rfl
theorem gPow : Tryd.prog.globalNamed "internal/strconv.uint64pow10" = some 0 := by kernel_rfl
theorem gPowType : (Tryd.prog.globals[0]?).map (·.type) = some 58 := by kernel_rfl
theorem cells58 : Tryd.prog.cellsOf 58 = 20 := by kernel_rfl
theorem cells48 : Tryd.prog.cellsOf 48 = 1 := by kernel_rfl
abbrev theList : List (String × DataW Unit) := [("math/bits.deBruijn32tab", Rows.laid_math_bits_deBruijn32tab), ("math/bits.deBruijn64tab", Rows.laid_math_bits_deBruijn64tab), ("internal/strconv.uint64pow10", Rows.laid_internal_strconv_uint64pow10)]

/-- what the row's list gives: the table of the powers of ten -/
theorem table {W : World} (h : laidMetH Tryd.prog theList W) : TabOk W.heap.size W := by
  have h1 := h.filter (fun x => x.1 == "internal/strconv.uint64pow10")
  have h2 : theList.filter (fun x => x.1 == "internal/strconv.uint64pow10") = [("internal/strconv.uint64pow10", Rows.laid_internal_strconv_uint64pow10)] := by kernel_rfl
  rw [h2] at h1
  exact Lib.tabBelow_of_tabIs (Lib.tabIs_of_head (rest := []) (zs := Lib.pow10Tab) gPow gPowType Tryd.underlying58 Tryd.underlying48 cells48 cells58 h1)

def litCells : DataW Unit → Array Value
  | .agg l => (l.map fun d => match d with | .lit (.int k n) => Value.int k n | _ => Value.nilIface).toArray
  | _ => #[]
def fill (d : DataW Unit) : Obj → Obj
  | .cells _ t fr => .cells (litCells d) t fr
  | o => o
/-- a world for the witness: the settled one, the tables as their initialisers lay them -/
noncomputable def laidWorld (os : Os) : World :=
  { World.holding Tryd.prog os ⟨#[], #[], []⟩ with heap := (((World.holding Tryd.prog os ⟨#[], #[], []⟩).heap.modify 0 (fill Rows.laid_internal_strconv_uint64pow10)).modify 1 (fill Rows.laid_math_bits_deBruijn32tab)).modify 2 (fill Rows.laid_math_bits_deBruijn64tab) }
end Go.Proofs.YtcjednmenbdmnaaDoor
