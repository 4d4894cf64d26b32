/- First of package note. -/
import Derived.Test.YtllpimhjpfkgpaaNMay
namespace Go.Proofs.Ytllpimhjpfkgpaa
open Go.RowKit
set_option maxRecDepth 20000
set_option linter.unusedVariables false
set_option linter.unusedSimpArgs false

end Go.Proofs.Ytllpimhjpfkgpaa
