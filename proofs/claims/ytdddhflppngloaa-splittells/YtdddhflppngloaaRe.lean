/- The contracts of the document's answers (package tympanref01), of 'is' and of 'awake', over the cut of stage 1. -/
import Derived.Test.YtdddhflppngloaaMe
namespace Go.Proofs.Ytdddhflppngloaa
open Go.RowKit
set_option maxRecDepth 20000
set_option linter.unusedVariables false

theorem ret_int {k : IntKind} {a b : Int} (h : a = b) : Ending.returned (.int k a) = .returned (.int k b) := by rw [h]
end Go.Proofs.Ytdddhflppngloaa
