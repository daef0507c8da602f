import Derived.Test.YtapfgfpkcnkgbaaDoorCards
import Derived.Test.YtapfgfpkcnkgbaaDoorTie
import Derived.Test.YtapfgfpkcnkgbaaDoorNumD
import Derived.Test.YtapfgfpkcnkgbaaDoorNumL
import Derived.WalkKit
import Derived.ProofKit
import Derived.OpenShut
import Derived.Deep.DeepHandedRow
import Derived.Lib.LaidTab
import Derived.LaidSub
set_option linter.unusedVariables false
namespace Go.Proofs.YtapfgfpkcnkgbaaDoor
open Go.ChangeShapes Go.WideShapes Go.ChangeAt Go.RowKit

theorem own : ownKnob Tryd.prog.godebug = none := by kernel_rfl
theorem laidOut : laidOutB Tryd.prog = true := by kernel_rfl

/-- The cells of a table, out of its datum. -/
def tabCells : DataW Unit → Array Value
  | .agg l => (l.map fun | .lit (.int k n) => Value.int k n | _ => undef).toArray
  | _ => #[]
def putTab (d : DataW Unit) : Obj → Obj
  | .cells _ t frozen => .cells (tabCells d) t frozen
  | o => o
/-- A WORLD FOR THE WITNESS: the settled one, the tables holding what their initialisers lay. -/
noncomputable def laidWorld (os : Os) : World :=
  { World.holding Tryd.prog os ⟨#[], #[], []⟩ with heap := (((World.holding Tryd.prog os ⟨#[], #[], []⟩).heap.modify 3 (putTab Rows.laid_internal_strconv_uint64pow10)).modify 4 (putTab Rows.laid_math_bits_deBruijn32tab)).modify 5 (putTab Rows.laid_math_bits_deBruijn64tab) }

/-- WHAT THE ROW's LIST GIVES: the table of powers of ten. -/
theorem gTabType : (Tryd.prog.globals[3]?).map (·.type) = some 75 := by kernel_rfl
theorem cells54 : Tryd.prog.cellsOf 75 = 20 := by kernel_rfl
theorem cells22 : Tryd.prog.cellsOf 22 = 1 := by kernel_rfl
theorem pow10_of {l : List (String × DataW Unit)} {W : World} (h : laidMetH Tryd.prog l W) (hl : l.filter (fun x => x.1 == "internal/strconv.uint64pow10") = [("internal/strconv.uint64pow10", Lib.tabData .u64 Lib.pow10Tab)]) : Pow10 W := by
  have h1 := h.filter (fun x => x.1 == "internal/strconv.uint64pow10")
  rw [hl] at h1
  exact Lib.tabIs_of_head (rest := []) gTab gTabType Tryd.underlying75 Tryd.underlying22 cells22 cells54 h1
end Go.Proofs.YtapfgfpkcnkgbaaDoor
