/- Box, Glue, Order, Least of package total and the document's; 'small' of the law. -/
import Derived.Test.YtnajjgohodnfhaaTRow
import Derived.Test.YtnajjgohodnfhaaBlk
namespace Go.Proofs.Ytnajjgohodnfhaa
open Go.RowKit
set_option maxRecDepth 20000
set_option linter.unusedVariables false
set_option linter.unusedSimpArgs false

end Go.Proofs.Ytnajjgohodnfhaa
