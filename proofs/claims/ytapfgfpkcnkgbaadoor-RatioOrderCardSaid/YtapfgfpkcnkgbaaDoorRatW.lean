import Derived.Test.YtapfgfpkcnkgbaaDoorNumW
set_option linter.unusedVariables false
namespace Go.Proofs.YtapfgfpkcnkgbaaDoor
open Go.ChangeShapes Go.WideShapes Go.ChangeAt Go.RowKit
theorem cellsRatio : Tryd.prog.cellsOf 24 = 2 := by kernel_rfl
end Go.Proofs.YtapfgfpkcnkgbaaDoor
