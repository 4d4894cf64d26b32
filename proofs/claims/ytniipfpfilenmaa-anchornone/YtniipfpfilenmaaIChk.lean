/- admits and Check of package item. -/
import Derived.Test.YtniipfpfilenmaaIFld
namespace Go.Proofs.Ytniipfpfilenmaa
open Go.RowKit
set_option maxRecDepth 20000
set_option linter.unusedVariables false
set_option linter.unusedSimpArgs false

theorem Blk.three {w : World} {g : Nat} {T : TypeId} {v0 v1 v2 : Value} (h : Blk w g #[v0, v1, v2] T) : w.cell? ⟨g, 0, none⟩ = some v0 ∧ w.cell? ⟨g, 1, none⟩ = some v1 ∧ w.cell? ⟨g, 2, none⟩ = some v2 := by
  unfold Blk at h
  simp [World.cell?, h]
/-- Does a field with these kinds, this value and this answer allow an item of kind k? -/
def admR (l : List Int) (k v : Int) (z : Bool) : Bool := bif hasK l k then z else v == 0
/-- Do the first m fields allow it? -/
def chkQ (q : Nat → Bool) : Nat → Bool
  | 0 => true
  | m + 1 => chkQ q m && q m
theorem chkQ_no {q : Nat → Bool} {j m : Nat} (h : j < m) (hq : q j = false) : chkQ q m = false := by
  induction m with
  | zero => omega
  | succ m ih =>
    unfold chkQ
    by_cases e : j = m
    · rw [← e, hq, Bool.and_false]
    · rw [ih (by omega), Bool.false_and]
end Go.Proofs.Ytniipfpfilenmaa
