/- Check of package note. -/
import Derived.Test.YtopifminodlpbaaNMath
import Derived.Test.YtopifminodlpbaaTRow
import Derived.Test.YtopifminodlpbaaBlk
namespace Go.Proofs.Ytopifminodlpbaa
open Go.RowKit
set_option maxRecDepth 20000
set_option linter.unusedVariables false
set_option linter.unusedSimpArgs false

/-- A note by value. -/
def nte (la : Option Addr) (ll lc : Nat) (pa : Option Addr) (pl pc : Nat) : Value := .agg #[.slice la ll lc, .slice pa pl pc]
end Go.Proofs.Ytopifminodlpbaa
