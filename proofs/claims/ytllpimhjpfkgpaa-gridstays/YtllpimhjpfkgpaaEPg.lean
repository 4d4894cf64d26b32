/- Page, X and Plain of package geom, and the document's. -/
import Derived.Test.YtllpimhjpfkgpaaEOth
import Derived.WalkSmall
namespace Go.Proofs.Ytllpimhjpfkgpaa
open Go.RowKit
set_option maxRecDepth 20000
set_option linter.unusedVariables false
set_option linter.unusedSimpArgs false

theorem sideE_in {g : G19} (n : Int) (h : rightE g = true) : 0 ≤ sideE g n ∧ sideE g n < g.cols := by
  have := rightE_cols h
  unfold sideE
  rw [h, cond_true]
  exact ⟨Int.emod_nonneg _ (by omega), Int.emod_lt_of_pos _ (by omega)⟩
theorem xE_in {g : G19} (n : Int) (h : rightE g = true) : 0 ≤ sideE g n * (g.wide + g.gap) ∧ sideE g n * (g.wide + g.gap) ≤ 17179869168 := by
  have h1 := sideE_in n h
  have h2 := rightE_cols h
  have h3 := rightE_wide h
  have h4 : 0 ≤ sideE g n * (g.wide + g.gap) := Int.mul_nonneg h1.1 (by omega)
  have h5 : sideE g n * (g.wide + g.gap) ≤ 8 * 2147483646 := Int.mul_le_mul (by omega) (by omega) (by omega) (by omega)
  omega
end Go.Proofs.Ytllpimhjpfkgpaa
