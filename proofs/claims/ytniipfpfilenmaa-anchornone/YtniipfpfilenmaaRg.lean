/- More contracts of the document's answers (package tympanref01), and of 'awake', over the cut of stage 1. More contracts of the document's answers (package tympanref01): Up, Down; and of 'awake', over the cut of stage 1. -/
import Derived.Test.YtniipfpfilenmaaRe
namespace Go.Proofs.Ytniipfpfilenmaa
open Go.RowKit
set_option maxRecDepth 20000
set_option linter.unusedVariables false

/-- How far a number is from 0. -/
def sz (n : Int) : Int := if n < 0 then -n else n
theorem div_lt {t s x : Int} (hs : 0 < s) : (t / s < x) ↔ t < x * s := Int.ediv_lt_iff_lt_mul hs
/-- The product's size, by the signs. -/
theorem sz_hi (a n : Int) (h : decide (a < 0) = decide (n < 0)) : sz a * sz n = a * n := by
  unfold sz
  by_cases h1 : a < 0 <;> by_cases h2 : n < 0 <;> simp [h1, h2, Int.neg_mul_neg] at h ⊢
theorem sz_lo (a n : Int) (h : decide (a < 0) ≠ decide (n < 0)) : sz a * sz n = -(a * n) := by
  unfold sz
  by_cases h1 : a < 0 <;> by_cases h2 : n < 0 <;> simp [h1, h2, Int.neg_mul, Int.mul_neg] at h ⊢
theorem sz_bd (n : Int) (hn : inR n) (h0 : n ≠ 0) : 1 ≤ sz n ∧ sz n ≤ 9223372036854775808 := by
  unfold inR at hn; unfold sz; split <;> omega

end Go.Proofs.Ytniipfpfilenmaa
namespace Go.Proofs.Ytniipfpfilenmaa
open Go.RowKit
set_option maxRecDepth 20000
set_option linter.unusedVariables false

/-- Behind a callee that turned nothing old: the two cells of a result's own block. -/
theorem res_cells {w w1 : World} {u v : Value} {T : TypeId} (hb : Below (w.alloc (.cells #[u, v] T)).heap.size (w.alloc (.cells #[u, v] T)) w1) :
    w1.cell? ⟨w.heap.size, 0, none⟩ = some u ∧ w1.cell? ⟨w.heap.size, 1, none⟩ = some v ∧ w1.frozen? ⟨w.heap.size, 0, none⟩ = false ∧ w1.frozen? ⟨w.heap.size, 1, none⟩ = false :=
  ⟨(hb.cell (p := ⟨w.heap.size, 0, none⟩) (by simp)).trans (by simp), (hb.cell (p := ⟨w.heap.size, 1, none⟩) (by simp)).trans (by simp),
   (hb.frozen (p := ⟨w.heap.size, 0, none⟩) (by simp)).trans (by simp), (hb.frozen (p := ⟨w.heap.size, 1, none⟩) (by simp)).trans (by simp)⟩
theorem res_below {w w1 : World} {u v x y : Value} {T : TypeId} (hb : Below (w.alloc (.cells #[u, v] T)).heap.size (w.alloc (.cells #[u, v] T)) w1) :
    Below w.heap.size w ((w1.setCell ⟨w.heap.size, 0, none⟩ x).setCell ⟨w.heap.size, 1, none⟩ y) :=
  ((((Below.refl _ w).alloc (Nat.le_refl _) _).trans (hb.mono (by simp))).setCell (p := ⟨w.heap.size, 0, none⟩) (Nat.le_refl _) _).setCell (p := ⟨w.heap.size, 1, none⟩) (Nat.le_refl _) _

theorem upR_awake : upR (-7) 5 = (-5, true) := by decide
theorem mulR_awake : mulR 1099511627776 1073741824 = (0, false) := by decide
end Go.Proofs.Ytniipfpfilenmaa
