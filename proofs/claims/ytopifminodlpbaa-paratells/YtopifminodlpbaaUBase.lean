/- Floats, and the small functions of package figure. -/
import Derived.Test.YtopifminodlpbaaNMath
import Derived.Test.YtopifminodlpbaaTRow
import Derived.Test.YtopifminodlpbaaBlk
import Derived.Test.YtopifminodlpbaaUBit
namespace Go.Proofs.Ytopifminodlpbaa
open Go.RowKit
set_option maxRecDepth 20000
set_option linter.unusedVariables false
set_option linter.unusedSimpArgs false

/-- A float. -/
structure F3 where
  c : Int
  h : Int
  p : Int
def flt (x : F3) : Value := .agg #[.int .i64 x.c, .int .i64 x.h, .int .i64 x.p]
def classF (x : F3) : Bool := decide (0 ≤ x.c) && decide (x.c < 3)
def rightF (x : F3) : Bool := classF x && (decide (1 ≤ x.h) && decide (x.h ≤ 1073741823) && (decide (0 ≤ x.p) && decide (x.p ≤ 3)))
def topF (x : F3) : Bool := decide (x.p % 2 = 1)
def botF (x : F3) : Bool := decide (x.p / 2 % 2 = 1)
def errF (b : Bool) : Value := .int .i64 (cond b 0 10)
theorem Blk.triple {w : World} {g : Nat} {T : TypeId} {v0 v1 v2 : Value} (h : Blk w g #[v0, v1, v2] T) : w.cell? ⟨g, 0, none⟩ = some v0 ∧ w.cell? ⟨g, 1, none⟩ = some v1 ∧ w.cell? ⟨g, 2, none⟩ = some v2 := by
  unfold Blk at h
  simp [World.cell?, h]
end Go.Proofs.Ytopifminodlpbaa
