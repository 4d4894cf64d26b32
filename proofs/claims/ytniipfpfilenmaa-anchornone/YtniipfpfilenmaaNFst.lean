/- First of package note. -/
import Derived.Test.YtniipfpfilenmaaNMay
namespace Go.Proofs.Ytniipfpfilenmaa
open Go.RowKit
set_option maxRecDepth 20000
set_option linter.unusedVariables false
set_option linter.unusedSimpArgs false

end Go.Proofs.Ytniipfpfilenmaa
