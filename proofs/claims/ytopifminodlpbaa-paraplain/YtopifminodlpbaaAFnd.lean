/- The search of package vlist; Trim, First and Force. -/
import Derived.Test.YtopifminodlpbaaAMay
namespace Go.Proofs.Ytopifminodlpbaa
open Go.RowKit
set_option maxRecDepth 20000
set_option linter.unusedVariables false
set_option linter.unusedSimpArgs false

end Go.Proofs.Ytopifminodlpbaa
