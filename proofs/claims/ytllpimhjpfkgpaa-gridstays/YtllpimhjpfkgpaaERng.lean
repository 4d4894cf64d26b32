/- ranges of package geom. -/
import Derived.Test.YtllpimhjpfkgpaaEWith
import Derived.Test.YtllpimhjpfkgpaaDetV
import Derived.Laws.Tables
namespace Go.Proofs.Ytllpimhjpfkgpaa
open Go.RowKit
set_option maxRecDepth 20000
set_option linter.unusedVariables false
set_option linter.unusedSimpArgs false

theorem Blk.ne {w : World} {p q : Nat} {cs ds : Array Value} {T U : TypeId} (h : Blk w p cs T) (k : Blk w q ds U) (hT : T ≠ U) : p ≠ q := by
  rintro rfl
  unfold Blk at h k
  rw [h] at k
  simp only [Option.some.injEq, Obj.cells.injEq] at k
  exact hT k.2.1
end Go.Proofs.Ytllpimhjpfkgpaa
