/- Box, Glue, Order, Least of package total and the document's; 'small' of the law. -/
import Derived.Test.YtniipfpfilenmaaTRow
import Derived.Test.YtniipfpfilenmaaBlk
namespace Go.Proofs.Ytniipfpfilenmaa
open Go.RowKit
set_option maxRecDepth 20000
set_option linter.unusedVariables false
set_option linter.unusedSimpArgs false

end Go.Proofs.Ytniipfpfilenmaa
