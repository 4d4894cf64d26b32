/- Box, Glue, Order, Least of package total and the document's; 'small' of the law. '==' of totals and of the document's results. -/
import Derived.Test.YthcgncgnbjhniaaGreatTRow
import Derived.Test.YthcgncgnbjhniaaGreatBlk
namespace Go.Proofs.YthcgncgnbjhniaaGreat
open Go.RowKit
set_option maxRecDepth 20000
set_option linter.unusedVariables false
set_option linter.unusedSimpArgs false

end Go.Proofs.YthcgncgnbjhniaaGreat
namespace Go.Proofs.YthcgncgnbjhniaaGreat
open Go.RowKit
set_option maxRecDepth 20000
set_option linter.unusedVariables false

theorem sz_sp (w : World) : (sizeOf 22).run Tryz.prog w = .ok 1 w := by kernel_rfl
end Go.Proofs.YthcgncgnbjhniaaGreat
