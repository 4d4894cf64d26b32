/- Check and valid of package geom. -/
import Derived.Test.YtllpimhjpfkgpaaERng
import Derived.LoopN
namespace Go.Proofs.Ytllpimhjpfkgpaa
open Go.RowKit
set_option maxRecDepth 20000
set_option linter.unusedVariables false
set_option linter.unusedSimpArgs false

theorem info24 : (Try.prog.info? 24).map (·.size) = some 19 := by kernel_rfl
/-- A geometry is loaded whole. -/
theorem load_geo {o : Oper} {a : Act} {w : World} {g : G19} {b : Nat} (x : Operand) (ho : o.op = .load 24 x) (hx : a.eval x = .pointer (some ⟨b, 0, none⟩)) (h : GeoAt w b g) :
    (execOp a.eval o).run Try.prog w = .ok (.value (.agg (geoC g))) w := by
  unfold execOp
  simp only [ho, hx, Instr.loadAt, Instr.sureAddr, Sem.run_bind, Sem.run_pure, Result.andThen_ok, run_loadVar_row w b 24 24 (geoC g) (0, 0) _ h Try.underlying24 rfl info24]
theorem geo_new (w : World) (g : G19) : GeoAt (w.alloc (.cells (geoC g) 24)) w.heap.size g := blk_new w (geoC g) 24
theorem nums_at (g : G19) (j : Nat) (hj : j < 17) : (#[.int .i64 g.wide, .int .i64 g.high, .int .i64 g.gap, .int .i64 g.nmost, .int .i64 g.tmost, .int .i64 g.bmost, .int .i64 g.rule, .int .i64 g.sep, .int .i64 g.first, .int .i64 g.grid, .int .i64 g.tmany, .int .i64 g.bmany, .int .i64 g.club, .int .i64 g.widow, .int .i64 g.split, .int .i64 g.later, .int .i64 g.spare] : Array Value)[j]? = some (.int .i64 ((numsE g).getD j 0)) := by
  have : j = 0 ∨ j = 1 ∨ j = 2 ∨ j = 3 ∨ j = 4 ∨ j = 5 ∨ j = 6 ∨ j = 7 ∨ j = 8 ∨ j = 9 ∨ j = 10 ∨ j = 11 ∨ j = 12 ∨ j = 13 ∨ j = 14 ∨ j = 15 ∨ j = 16 := by omega
  rcases this with rfl | rfl | rfl | rfl | rfl | rfl | rfl | rfl | rfl | rfl | rfl | rfl | rfl | rfl | rfl | rfl | rfl <;> rfl
end Go.Proofs.Ytllpimhjpfkgpaa
