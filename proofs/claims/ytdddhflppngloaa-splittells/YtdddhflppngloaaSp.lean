/- The contracts of package sp's functions and of the document's answers, over the cut of stage 1. -/
import Derived.Test.YtdddhflppngloaaRows
import Derived.Test.YtdddhflppngloaaMath
import Derived.WalkKit
namespace Go.Proofs.Ytdddhflppngloaa
open Go.RowKit
set_option maxRecDepth 20000
set_option linter.unusedVariables false

/-- What a call hands back: a number and a bool. -/
def two (x : Int × Bool) : Value := .tuple #[.int .i64 x.1, .bool x.2]
/-- The document's pair, by value. -/
def pair (x : Int × Bool) : Value := .agg #[.int .i64 x.1, .bool x.2]

/-! ### sp -/
end Go.Proofs.Ytdddhflppngloaa
