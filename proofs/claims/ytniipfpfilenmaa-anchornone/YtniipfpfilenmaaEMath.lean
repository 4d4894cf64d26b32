/- Plain mathematics for stage 13: geometries, over Lean's integers. -/
import Derived.Test.YtniipfpfilenmaaTMath
namespace Go.Proofs.Ytniipfpfilenmaa
open Go.RowKit
set_option maxRecDepth 20000

/-- A geometry. -/
structure G19 where
  cols : Int
  wide : Int
  gap : Int
  high : Int
  first : Int
  grid : Int
  rule : Int
  sep : Int
  nmost : Int
  tmost : Int
  bmost : Int
  tmany : Int
  bmany : Int
  club : Int
  widow : Int
  split : Int
  later : Int
  spare : Int
  bal : Bool
/-- A geometry's cells. -/
def geoC (g : G19) : Array Value := #[.int .i64 g.cols, .int .i64 g.wide, .int .i64 g.gap, .int .i64 g.high, .int .i64 g.first, .int .i64 g.grid, .int .i64 g.rule, .int .i64 g.sep, .int .i64 g.nmost, .int .i64 g.tmost, .int .i64 g.bmost, .int .i64 g.tmany, .int .i64 g.bmany, .int .i64 g.club, .int .i64 g.widow, .int .i64 g.split, .int .i64 g.later, .int .i64 g.spare, .bool g.bal]
/-- A geometry by value. -/
def geo (g : G19) : Value := .agg (geoC g)
def inE (g : G19) : Prop := inR g.cols ∧ inR g.wide ∧ inR g.gap ∧ inR g.high ∧ inR g.first ∧ inR g.grid ∧ inR g.rule ∧ inR g.sep ∧ inR g.nmost ∧ inR g.tmost ∧ inR g.bmost ∧ inR g.tmany ∧ inR g.bmany ∧ inR g.club ∧ inR g.widow ∧ inR g.split ∧ inR g.later ∧ inR g.spare
/-- Is n between a and b? -/
def btwE (n a b : Int) : Bool := decide (a ≤ n) && decide (n ≤ b)
theorem btwE_iff {n a b : Int} : btwE n a b = true ↔ a ≤ n ∧ n ≤ b := by simp [btwE]
theorem btwE_not {n a b : Int} : btwE n a b = false ↔ n < a ∨ b < n := by
  rw [← Bool.not_eq_true, btwE_iff]; omega
/-- The numbers of a geometry, and the ends of their ranges. -/
def numsE (g : G19) : List Int := [g.wide, g.high, g.gap, g.nmost, g.tmost, g.bmost, g.rule, g.sep, g.first, g.grid, g.tmany, g.bmany, g.club, g.widow, g.split, g.later, g.spare]
def lowE : List Int := [1, 1, 0, 0, 0, 0, 0, 0, 1, 0, 0, 0, 0, 0, 0, 0, 0]
def topE (g : G19) : List Int := [1073741823, 1073741823, 1073741823, 1073741823, 1073741823, 1073741823, 536870912, 536870912, g.high, min g.first 536870912, 4, 4, 1048576, 1048576, 1048576, 1048576, 1048576]
/-- Is number k in its range? -/
def fitE (g : G19) (k : Nat) : Bool := btwE ((numsE g).getD k 0) (lowE.getD k 0) ((topE g).getD k 0)
/-- Are the first k numbers? -/
def fitsE (g : G19) : Nat → Bool
  | 0 => true
  | k + 1 => fitsE g k && fitE g k
theorem fitsE_no {g : G19} {j m : Nat} (h : j < m) (hq : fitE g j = false) : fitsE g m = false := by
  induction m with
  | zero => omega
  | succ m ih =>
    unfold fitsE
    by_cases e : j = m
    · rw [← e, hq, Bool.and_false]
    · rw [ih (by omega), Bool.false_and]
/-- All numbers but the first are in their ranges. -/
def restE (g : G19) : Prop := (1 ≤ g.wide ∧ g.wide ≤ 1073741823) ∧ (1 ≤ g.high ∧ g.high ≤ 1073741823) ∧ (0 ≤ g.gap ∧ g.gap ≤ 1073741823) ∧ (0 ≤ g.nmost ∧ g.nmost ≤ 1073741823) ∧ (0 ≤ g.tmost ∧ g.tmost ≤ 1073741823) ∧ (0 ≤ g.bmost ∧ g.bmost ≤ 1073741823) ∧
  (0 ≤ g.rule ∧ g.rule ≤ 536870912) ∧ (0 ≤ g.sep ∧ g.sep ≤ 536870912) ∧ (1 ≤ g.first ∧ g.first ≤ g.high) ∧ (0 ≤ g.grid ∧ g.grid ≤ g.first ∧ g.grid ≤ 536870912) ∧ (0 ≤ g.tmany ∧ g.tmany ≤ 4) ∧ (0 ≤ g.bmany ∧ g.bmany ≤ 4) ∧
  (0 ≤ g.club ∧ g.club ≤ 1048576) ∧ (0 ≤ g.widow ∧ g.widow ≤ 1048576) ∧ (0 ≤ g.split ∧ g.split ≤ 1048576) ∧ (0 ≤ g.later ∧ g.later ≤ 1048576) ∧ (0 ≤ g.spare ∧ g.spare ≤ 1048576)
theorem fitsE_iff (g : G19) : fitsE g 17 = true ↔ restE g := by
  simp only [fitsE, fitE, numsE, lowE, topE, List.getD_cons_zero, List.getD_cons_succ, Bool.and_eq_true, btwE_iff, restE, true_and]
  constructor
  · intro h; omega
  · intro h; omega
/-- What Check returns: 0, 6 (the columns) or 7. -/
def errE (g : G19) : Int := bif btwE g.cols 1 8 then (bif fitsE g 17 then 0 else 7) else 6
/-- May it be? -/
def rightE (g : G19) : Bool := btwE g.cols 1 8 && fitsE g 17
theorem errE_right (g : G19) : (errE g == 0) = rightE g := by
  unfold errE rightE
  cases btwE g.cols 1 8 <;> cases fitsE g 17 <;> rfl
theorem rightE_iff (g : G19) : rightE g = true ↔ (1 ≤ g.cols ∧ g.cols ≤ 8) ∧ restE g := by
  unfold rightE
  rw [Bool.and_eq_true, btwE_iff, fitsE_iff]
/-- The position of column n. -/
def colE (g : G19) (n : Int) : Int := bif rightE g then min (max n 0) g.cols else 0
/-- The height at a position. -/
def highE (g : G19) (c : Int) : Int := bif rightE g then (if c < g.cols then g.first else g.high) else 0
/-- The page of column n, and its index there. -/
def pageE (g : G19) (n : Int) : Int := bif rightE g then max n 0 / g.cols else 0
def sideE (g : G19) (n : Int) : Int := bif rightE g then max n 0 % g.cols else 0
/-- Its distance from the left edge. -/
def xE (g : G19) (n : Int) : Int := bif rightE g then sideE g n * (g.wide + g.gap) else 0
def plainE (c h : Int) : G19 := ⟨c, h, 0, h, h, 0, 0, 0, h, h, h, 4, 4, 0, 0, 0, 0, 0, false⟩
end Go.Proofs.Ytniipfpfilenmaa
