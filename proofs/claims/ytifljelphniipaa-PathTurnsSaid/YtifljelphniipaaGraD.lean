import Derived.Test.YtifljelphniipaaGraC
set_option linter.unusedVariables false
set_option linter.unusedSimpArgs false
namespace Go.Proofs.Ytifljelphniipaa
open Go.RowKit
end Go.Proofs.Ytifljelphniipaa
