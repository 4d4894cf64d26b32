/- More contracts of package sp's functions, over the cut of stage 1: Mul, Up, Down, the meter. -/
import Derived.Test.YtlinggmnelejfaaSp
namespace Go.Proofs.Ytlinggmnelejfaa
open Go.RowKit
set_option linter.unusedVariables false

end Go.Proofs.Ytlinggmnelejfaa
