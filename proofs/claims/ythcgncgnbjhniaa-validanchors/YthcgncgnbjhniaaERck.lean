/- The document's Check of a geometry. -/
import Derived.Test.YthcgncgnbjhniaaEChk
namespace Go.Proofs.Ythcgncgnbjhniaa
open Go.RowKit
set_option maxRecDepth 20000
set_option linter.unusedVariables false
set_option linter.unusedSimpArgs false

def oneL (g : G19) : List Int := [g.wide, g.high, g.first]
def noughtL (g : G19) : List Int := [g.gap, g.rule, g.sep, g.nmost, g.tmost, g.bmost, g.grid]
def manyL (g : G19) : List Int := [g.tmany, g.bmany, g.club, g.widow, g.split, g.later, g.spare]
theorem one_at (g : G19) (j : Nat) (hj : j < 3) : (#[.int .i64 g.wide, .int .i64 g.high, .int .i64 g.first] : Array Value)[j]? = some (.int .i64 ((oneL g).getD j 0)) := by
  have : j = 0 ∨ j = 1 ∨ j = 2 := by omega
  rcases this with rfl | rfl | rfl <;> rfl
theorem nought_at (g : G19) (j : Nat) (hj : j < 7) : (#[.int .i64 g.gap, .int .i64 g.rule, .int .i64 g.sep, .int .i64 g.nmost, .int .i64 g.tmost, .int .i64 g.bmost, .int .i64 g.grid] : Array Value)[j]? = some (.int .i64 ((noughtL g).getD j 0)) := by
  have : j = 0 ∨ j = 1 ∨ j = 2 ∨ j = 3 ∨ j = 4 ∨ j = 5 ∨ j = 6 := by omega
  rcases this with rfl | rfl | rfl | rfl | rfl | rfl | rfl <;> rfl
theorem many_at (g : G19) (j : Nat) (hj : j < 7) : (#[.int .i64 g.tmany, .int .i64 g.bmany, .int .i64 g.club, .int .i64 g.widow, .int .i64 g.split, .int .i64 g.later, .int .i64 g.spare] : Array Value)[j]? = some (.int .i64 ((manyL g).getD j 0)) := by
  have : j = 0 ∨ j = 1 ∨ j = 2 ∨ j = 3 ∨ j = 4 ∨ j = 5 ∨ j = 6 := by omega
  rcases this with rfl | rfl | rfl | rfl | rfl | rfl | rfl <;> rfl
def fitOne (g : G19) (k : Nat) : Prop := 1 ≤ (oneL g).getD k 0 ∧ (oneL g).getD k 0 ≤ 1073741823
def fitNought (g : G19) (k : Nat) : Prop := 0 ≤ (noughtL g).getD k 0 ∧ (noughtL g).getD k 0 ≤ 1073741823
def fitMany (g : G19) (k : Nat) : Prop := 0 ≤ (manyL g).getD k 0 ∧ (manyL g).getD k 0 ≤ 1048576 ∧ (k < 2 → (manyL g).getD k 0 ≤ 4)
def fitLast (g : G19) : Prop := g.first ≤ g.high ∧ g.grid ≤ g.first ∧ g.grid ≤ 536870912 ∧ g.rule ≤ 536870912 ∧ g.sep ≤ 536870912
theorem fit_all (g : G19) (h1 : ∀ k, k < 3 → fitOne g k) (h2 : ∀ k, k < 7 → fitNought g k) (h3 : ∀ k, k < 7 → fitMany g k) (h4 : fitLast g) : fitsE g 17 = true := by
  rw [fitsE_iff]
  have a0 := h1 0 (by omega)
  have a1 := h1 1 (by omega)
  have a2 := h1 2 (by omega)
  have b0 := h2 0 (by omega)
  have b1 := h2 1 (by omega)
  have b2 := h2 2 (by omega)
  have b3 := h2 3 (by omega)
  have b4 := h2 4 (by omega)
  have b5 := h2 5 (by omega)
  have b6 := h2 6 (by omega)
  have c0 := h3 0 (by omega)
  have c1 := h3 1 (by omega)
  have c2 := h3 2 (by omega)
  have c3 := h3 3 (by omega)
  have c4 := h3 4 (by omega)
  have c5 := h3 5 (by omega)
  have c6 := h3 6 (by omega)
  simp only [fitOne, fitNought, fitMany, oneL, noughtL, manyL, List.getD_cons_zero, List.getD_cons_succ] at a0 a1 a2 b0 b1 b2 b3 b4 b5 b6 c0 c1 c2 c3 c4 c5 c6
  unfold fitLast at h4
  unfold restE
  omega
theorem fit_each (g : G19) (h : fitsE g 17 = true) : (∀ k, k < 3 → fitOne g k) ∧ (∀ k, k < 7 → fitNought g k) ∧ (∀ k, k < 7 → fitMany g k) ∧ fitLast g := by
  rw [fitsE_iff] at h
  unfold restE at h
  refine ⟨fun k hk => ?_, fun k hk => ?_, fun k hk => ?_, ?_⟩
  · have : k = 0 ∨ k = 1 ∨ k = 2 := by omega
    rcases this with rfl | rfl | rfl <;> simp only [fitOne, oneL, List.getD_cons_zero, List.getD_cons_succ] <;> omega
  · have : k = 0 ∨ k = 1 ∨ k = 2 ∨ k = 3 ∨ k = 4 ∨ k = 5 ∨ k = 6 := by omega
    rcases this with rfl | rfl | rfl | rfl | rfl | rfl | rfl <;> simp only [fitNought, noughtL, List.getD_cons_zero, List.getD_cons_succ] <;> omega
  · have : k = 0 ∨ k = 1 ∨ k = 2 ∨ k = 3 ∨ k = 4 ∨ k = 5 ∨ k = 6 := by omega
    rcases this with rfl | rfl | rfl | rfl | rfl | rfl | rfl <;> simp only [fitMany, manyL, List.getD_cons_zero, List.getD_cons_succ] <;> omega
  · unfold fitLast; omega
theorem no_one {g : G19} {k : Nat} (hk : k < 3) (h : ¬ fitOne g k) : fitsE g 17 = false := by
  rw [← Bool.not_eq_true]; exact fun e => h ((fit_each g e).1 k hk)
theorem no_nought {g : G19} {k : Nat} (hk : k < 7) (h : ¬ fitNought g k) : fitsE g 17 = false := by
  rw [← Bool.not_eq_true]; exact fun e => h ((fit_each g e).2.1 k hk)
theorem no_many {g : G19} {k : Nat} (hk : k < 7) (h : ¬ fitMany g k) : fitsE g 17 = false := by
  rw [← Bool.not_eq_true]; exact fun e => h ((fit_each g e).2.2.1 k hk)
theorem no_last {g : G19} (h : ¬ fitLast g) : fitsE g 17 = false := by
  rw [← Bool.not_eq_true]; exact fun e => h (fit_each g e).2.2.2
theorem up_to {P : Nat → Prop} {j : Nat} (h : ∀ k, k < j → P k) (hj : P j) : ∀ k, k < j + 1 → P k := fun k hk => by
  by_cases e : k = j
  · rw [e]; exact hj
  · exact h k (by omega)
end Go.Proofs.Ythcgncgnbjhniaa
