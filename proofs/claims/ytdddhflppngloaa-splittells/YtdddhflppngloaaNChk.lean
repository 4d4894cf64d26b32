/- Check of package note. -/
import Derived.Test.YtdddhflppngloaaNMath
import Derived.Test.YtdddhflppngloaaTRow
import Derived.Test.YtdddhflppngloaaBlk
namespace Go.Proofs.Ytdddhflppngloaa
open Go.RowKit
set_option maxRecDepth 20000
set_option linter.unusedVariables false
set_option linter.unusedSimpArgs false

/-- A note by value. -/
def nte (la : Option Addr) (ll lc : Nat) (pa : Option Addr) (pl pc : Nat) : Value := .agg #[.slice la ll lc, .slice pa pl pc]
end Go.Proofs.Ytdddhflppngloaa
