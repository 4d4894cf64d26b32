/- More contracts of the document's answers (package tympanref01), and of 'awake', over the cut of stage 1. -/
import Derived.Test.YtomjglfamnacoaaRe
namespace Go.Proofs.Ytomjglfamnacoaa
open Go.RowKit
set_option maxRecDepth 20000
set_option linter.unusedVariables false

/-- How far a number is from 0. -/
def sz (n : Int) : Int := if n < 0 then -n else n
theorem div_lt {t s x : Int} (hs : 0 < s) : (t / s < x) ↔ t < x * s := Int.ediv_lt_iff_lt_mul hs
/-- The product's size, by the signs. -/
theorem sz_hi (a n : Int) (h : decide (a < 0) = decide (n < 0)) : sz a * sz n = a * n := by
  unfold sz
  by_cases h1 : a < 0 <;> by_cases h2 : n < 0 <;> simp [h1, h2, Int.neg_mul_neg] at h ⊢
theorem sz_lo (a n : Int) (h : decide (a < 0) ≠ decide (n < 0)) : sz a * sz n = -(a * n) := by
  unfold sz
  by_cases h1 : a < 0 <;> by_cases h2 : n < 0 <;> simp [h1, h2, Int.neg_mul, Int.mul_neg] at h ⊢
theorem sz_bd (n : Int) (hn : inR n) (h0 : n ≠ 0) : 1 ≤ sz n ∧ sz n ≤ 9223372036854775808 := by
  unfold inR at hn; unfold sz; split <;> omega

end Go.Proofs.Ytomjglfamnacoaa
