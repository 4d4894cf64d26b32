/- High of package note, and the document's. -/
import Derived.Test.YtgohglghmhhdnaaNCk
namespace Go.Proofs.Ytgohglghmhhdnaa
open Go.RowKit
set_option maxRecDepth 20000
set_option linter.unusedVariables false
set_option linter.unusedSimpArgs false

theorem lev_sum {s z : Int} (h : 0 ≤ s) (hz : 0 ≤ z) : levN (s + z) = if 1125899906842624 < s + z then 1125899906842624 else s + z := by
  unfold levN
  rw [if_neg (by omega)]
end Go.Proofs.Ytgohglghmhhdnaa
