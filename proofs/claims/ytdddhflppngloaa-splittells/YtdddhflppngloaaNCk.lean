/- Check of package note, and the document's. -/
import Derived.Test.YtdddhflppngloaaNChk
namespace Go.Proofs.Ytdddhflppngloaa
open Go.RowKit
set_option maxRecDepth 20000
set_option linter.unusedVariables false
set_option linter.unusedSimpArgs false

def errN (b : Bool) : Int := bif b then 0 else 9
theorem check_few (L P : List Int) (h : ¬ 1 ≤ L.length ∨ ¬ L.length ≤ 64 ∨ ¬ P.length + 1 = L.length) : checkN L P = false := by
  unfold checkN
  rcases h with h | h | h <;> simp [h]
theorem check_fit (L P : List Int) (h1 : 1 ≤ L.length) (h2 : L.length ≤ 64) (h3 : P.length + 1 = L.length) : checkN L P = (!(L.any badH || P.any badP)) := by
  unfold checkN
  simp [h1, h2, h3]
end Go.Proofs.Ytdddhflppngloaa
