import Derived.Test.YtifljelphniipaaGraF
import Derived.Test.YtifljelphniipaaHeld
set_option linter.unusedVariables false
set_option linter.unusedSimpArgs false
namespace Go.Proofs.Ytifljelphniipaa
open Go.RowKit
attribute [local go_sem ↓] Go.wp_at_zero Go.wp_at_succ
def turnE (e : Ed) : Ed := ⟨e.t, e.f, e.w⟩
end Go.Proofs.Ytifljelphniipaa
