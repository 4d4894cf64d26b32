/- Up, Down, Near of package grid, and the document's; raise and lower. -/
import Derived.Test.YtniipfpfilenmaaJMath
import Derived.Test.YtniipfpfilenmaaJRow
import Derived.Test.YtniipfpfilenmaaRg
import Derived.Test.YtniipfpfilenmaaDetX
namespace Go.Proofs.Ytniipfpfilenmaa
open Go.RowKit
set_option maxRecDepth 20000
set_option linter.unusedVariables false
set_option linter.unusedSimpArgs false

theorem near_ways {n s : Int} (h1 : ¬ s < 1) {t : Int} (ht : n % s = t) : nearZ n s = (if t < s - t then downZ n s else upZ n s) := by
  unfold nearZ
  rw [if_neg h1, ht]
/-! ### The document's -/
/-! ### In place -/
end Go.Proofs.Ytniipfpfilenmaa
