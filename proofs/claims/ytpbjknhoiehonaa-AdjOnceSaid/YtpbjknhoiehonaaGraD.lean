import Derived.Test.YtpbjknhoiehonaaGraC
set_option linter.unusedVariables false
set_option linter.unusedSimpArgs false
namespace Go.Proofs.Ytpbjknhoiehonaa
open Go.RowKit
end Go.Proofs.Ytpbjknhoiehonaa
