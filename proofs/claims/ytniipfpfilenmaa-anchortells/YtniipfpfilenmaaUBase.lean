/- Floats, and the small functions of package figure. -/
import Derived.Test.YtniipfpfilenmaaNMath
import Derived.Test.YtniipfpfilenmaaTRow
import Derived.Test.YtniipfpfilenmaaBlk
import Derived.Test.YtniipfpfilenmaaUBit
namespace Go.Proofs.Ytniipfpfilenmaa
open Go.RowKit
set_option maxRecDepth 20000
set_option linter.unusedVariables false
set_option linter.unusedSimpArgs false

/-- A float. -/
structure F3 where
  c : Int
  h : Int
  p : Int
def flt (x : F3) : Value := .agg #[.int .i64 x.c, .int .i64 x.h, .int .i64 x.p]
def classF (x : F3) : Bool := decide (0 ≤ x.c) && decide (x.c < 3)
def rightF (x : F3) : Bool := classF x && (decide (1 ≤ x.h) && decide (x.h ≤ 1073741823) && (decide (0 ≤ x.p) && decide (x.p ≤ 3)))
def topF (x : F3) : Bool := decide (x.p % 2 = 1)
def botF (x : F3) : Bool := decide (x.p / 2 % 2 = 1)
theorem classed_any (x : F3) (w : World) : Calls Try.prog 30 #[flt x] w fun e w' => e = .returned (.bool (classF x)) ∧ Below w.heap.size w w' := by
  unfold classF
  obtain ⟨c, h, p⟩ := x
  unfold flt
  dsimp only
  by_cases g : 0 ≤ c
  · rw [decide_eq_true g]
    go_enter Try.func30, Try.ntmps30
    go_wp2
    go_ret
    exact ⟨rfl, tbel1 w _⟩
  · rw [decide_eq_false g]
    go_enter Try.func30, Try.ntmps30
    go_wp2
    go_ret
    exact ⟨rfl, tbel1 w _⟩
def errF (b : Bool) : Value := .int .i64 (cond b 0 10)
theorem Blk.triple {w : World} {g : Nat} {T : TypeId} {v0 v1 v2 : Value} (h : Blk w g #[v0, v1, v2] T) : w.cell? ⟨g, 0, none⟩ = some v0 ∧ w.cell? ⟨g, 1, none⟩ = some v1 ∧ w.cell? ⟨g, 2, none⟩ = some v2 := by
  unfold Blk at h
  simp [World.cell?, h]
end Go.Proofs.Ytniipfpfilenmaa
