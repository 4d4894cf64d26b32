/- The small functions of package geom and of the document. -/
import Derived.Test.YtllpimhjpfkgpaaERck
namespace Go.Proofs.Ytllpimhjpfkgpaa
open Go.RowKit
set_option maxRecDepth 20000
set_option linter.unusedVariables false
set_option linter.unusedSimpArgs false

theorem errE_yes {g : G19} (h : rightE g = true) : errE g = 0 := by
  have := errE_right g
  rw [h] at this
  simpa using this
theorem errE_no {g : G19} (h : rightE g = false) : (errE g != 0) = true := by
  have := errE_right g
  rw [h] at this
  simp [bne, this]
theorem rightE_cols {g : G19} (h : rightE g = true) : 1 ≤ g.cols ∧ g.cols ≤ 8 := ((rightE_iff g).1 h).1
theorem rightE_wide {g : G19} (h : rightE g = true) : (1 ≤ g.wide ∧ g.wide ≤ 1073741823) ∧ (0 ≤ g.gap ∧ g.gap ≤ 1073741823) := by
  have := ((rightE_iff g).1 h).2
  unfold restE at this
  omega

end Go.Proofs.Ytllpimhjpfkgpaa
