/- What Check and the document's Right say, in plain numbers. -/
import Derived.Test.YtniipfpfilenmaaICk
namespace Go.Proofs.Ytniipfpfilenmaa
open Go.RowKit
set_option maxRecDepth 20000
set_option linter.unusedVariables false
set_option linter.unusedSimpArgs false

theorem right_1 (h f s o r n : Int) : rightI ⟨1, h, f, s, o, r, n⟩ = decide (0 ≤ h ∧ h ≤ 1073741823 ∧ 0 ≤ f ∧ f ≤ 3 ∧ s = 0 ∧ o = 0 ∧ r = 0 ∧ n = 0) := by
  rw [Bool.eq_iff_iff]
  simp [rightI, chkQ, qI, admR, hasK, numI, btw]
  omega
theorem right_2 (h f s o r n : Int) : rightI ⟨2, h, f, s, o, r, n⟩ = decide (0 ≤ h ∧ h ≤ 1073741823 ∧ f = 0 ∧ 0 ≤ s ∧ s ≤ 1073741823 ∧ 0 ≤ o ∧ o ≤ 3 ∧ 0 ≤ r ∧ r ≤ h ∧ r ≤ 1073741823 ∧ n = 0) := by
  rw [Bool.eq_iff_iff]
  simp [rightI, chkQ, qI, admR, hasK, numI, btw]
  omega
theorem right_3 (h f s o r n : Int) : rightI ⟨3, h, f, s, o, r, n⟩ = decide (h = 0 ∧ f = 0 ∧ s = 0 ∧ o = 0 ∧ r = 0 ∧ (n = -10000 ∨ 0 ≤ n ∧ n ≤ 10000)) := by
  rw [Bool.eq_iff_iff]
  simp [rightI, chkQ, qI, admR, hasK, numI, btw]
  omega
theorem right_4 (h f s o r n : Int) : rightI ⟨4, h, f, s, o, r, n⟩ = decide (h = 0 ∧ f = 0 ∧ s = 0 ∧ o = 0 ∧ r = 0 ∧ 0 ≤ n ∧ n ≤ 1048576) := by
  rw [Bool.eq_iff_iff]
  simp [rightI, chkQ, qI, admR, hasK, numI, btw]
  omega
theorem right_5 (h f s o r n : Int) : rightI ⟨5, h, f, s, o, r, n⟩ = decide (h = 0 ∧ f = 0 ∧ s = 0 ∧ o = 0 ∧ r = 0 ∧ 0 ≤ n ∧ n ≤ 511) := by
  rw [Bool.eq_iff_iff]
  simp [rightI, chkQ, qI, admR, hasK, numI, btw]
  omega
theorem right_6 (h f s o r n : Int) : rightI ⟨6, h, f, s, o, r, n⟩ = decide (h = 0 ∧ f = 0 ∧ s = 0 ∧ o = 0 ∧ r = 0 ∧ 0 ≤ n ∧ n ≤ 255) := by
  rw [Bool.eq_iff_iff]
  simp [rightI, chkQ, qI, admR, hasK, numI, btw]
  omega
theorem right_7 (h f s o r n : Int) : rightI ⟨7, h, f, s, o, r, n⟩ = decide (h = 0 ∧ f = 0 ∧ s = 0 ∧ o = 0 ∧ r = 0 ∧ n = 0) := by
  rw [Bool.eq_iff_iff]
  simp [rightI, chkQ, qI, admR, hasK, numI, btw]
  omega
end Go.Proofs.Ytniipfpfilenmaa
