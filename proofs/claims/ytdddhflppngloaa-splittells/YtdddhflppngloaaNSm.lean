/- The same numbers, the same notes: package slices, package note, and the document's. -/
import Derived.Test.YtdddhflppngloaaNSt
import Derived.BigQuiet
namespace Go.Proofs.Ytdddhflppngloaa
open Go.RowKit
set_option maxRecDepth 20000
set_option linter.unusedVariables false
set_option linter.unusedSimpArgs false

theorem ndrewN {B : Nat} {w x : World} (h : Below B w x) (n : Nat) : Below B w (x.drewN n) := ⟨h.os, h.tape, h.output, h.size, h.block⟩
end Go.Proofs.Ytdddhflppngloaa
