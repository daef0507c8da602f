import Derived.Test.YtpbjknhoiehonaaGraZc
set_option linter.unusedVariables false
set_option linter.unusedSimpArgs false
namespace Go.Proofs.Ytpbjknhoiehonaa
open Go.RowKit
attribute [local go_sem ↓] Go.wp_at_zero Go.wp_at_succ
theorem sumW_take' (es : List Ed) {k : Nat} {e : Ed} (he : es[k]? = some e) : sumW (es.take (k + 1)) = sumW (es.take k) + e.w := sumW_take es he
end Go.Proofs.Ytpbjknhoiehonaa
