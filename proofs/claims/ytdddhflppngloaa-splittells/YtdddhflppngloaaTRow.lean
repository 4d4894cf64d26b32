/- The small functions of package total and the document's: rowOf, total, nums, of. -/
import Derived.Test.YtdddhflppngloaaTMath
import Derived.LoopN
import Derived.RegionTactic
import Derived.StillTailTactics
import Derived.BigQuiet
namespace Go.Proofs.Ytdddhflppngloaa
open Go.RowKit
set_option maxRecDepth 20000
set_option linter.unusedVariables false

theorem tbel1 (w : World) (a : Obj) : Below w.heap.size w (w.alloc a) := (Below.refl _ _).alloc (Nat.le_refl _) _
theorem tbel2 (w : World) (a b : Obj) : Below w.heap.size w ((w.alloc a).alloc b) := (tbel1 w a).alloc (by simp) _
theorem tbel3 (w : World) (a b c : Obj) : Below w.heap.size w (((w.alloc a).alloc b).alloc c) := (tbel2 w a b).alloc (by simp; omega) _
theorem tstep {B : Nat} {w x y : World} (h : Below B w x) (g : Below x.heap.size x y) (hB : B ≤ x.heap.size) : Below B w y := h.trans (g.mono hB)
end Go.Proofs.Ytdddhflppngloaa
