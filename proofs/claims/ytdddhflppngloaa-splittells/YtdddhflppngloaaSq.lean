/- More contracts of package sp's functions, over the cut of stage 1: Mul, Up, Down, the meter. -/
import Derived.Test.YtdddhflppngloaaSp
namespace Go.Proofs.Ytdddhflppngloaa
open Go.RowKit
set_option maxRecDepth 20000
set_option linter.unusedVariables false

end Go.Proofs.Ytdddhflppngloaa
