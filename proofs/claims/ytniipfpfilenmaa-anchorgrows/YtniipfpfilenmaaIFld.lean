/- The fields of items: functions in fields, and what they answer. -/
import Derived.Test.YtniipfpfilenmaaIIs
import Derived.LoopN
import Derived.Laws.EntriesVeiled
namespace Go.Proofs.Ytniipfpfilenmaa
open Go.RowKit
set_option maxRecDepth 20000
set_option linter.unusedVariables false
set_option linter.unusedSimpArgs false

def btw (a lo hi : Int) : Bool := decide (lo ≤ a) && decide (a ≤ hi)
/-- The N that a kind may have. -/
def numI (k n : Int) : Bool := if k = 3 then decide (n = -10000) || btw n 0 10000 else if k = 4 then btw n 0 1048576 else if k = 5 then btw n 0 511 else btw n 0 255
end Go.Proofs.Ytniipfpfilenmaa
