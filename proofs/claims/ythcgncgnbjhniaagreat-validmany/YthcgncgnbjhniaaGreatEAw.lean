/- The small functions of package geom and of the document. Page, X and Plain of package geom, and the document's. Plain of package geom; awake of layer 13. -/
import Derived.Test.YthcgncgnbjhniaaGreatERck
import Derived.WalkSmall
import Derived.Deep.WholeRow
namespace Go.Proofs.YthcgncgnbjhniaaGreat
open Go.RowKit
set_option maxRecDepth 20000
set_option linter.unusedVariables false
set_option linter.unusedSimpArgs false

theorem errE_yes {g : G19} (h : rightE g = true) : errE g = 0 := by
  have := errE_right g
  rw [h] at this
  simpa using this
theorem errE_no {g : G19} (h : rightE g = false) : (errE g != 0) = true := by
  have := errE_right g
  rw [h] at this
  simp [bne, this]
theorem rightE_cols {g : G19} (h : rightE g = true) : 1 ≤ g.cols ∧ g.cols ≤ 8 := ((rightE_iff g).1 h).1
theorem rightE_wide {g : G19} (h : rightE g = true) : (1 ≤ g.wide ∧ g.wide ≤ 1073741823) ∧ (0 ≤ g.gap ∧ g.gap ≤ 1073741823) := by
  have := ((rightE_iff g).1 h).2
  unfold restE at this
  omega

end Go.Proofs.YthcgncgnbjhniaaGreat
namespace Go.Proofs.YthcgncgnbjhniaaGreat
open Go.RowKit
set_option maxRecDepth 20000
set_option linter.unusedVariables false
set_option linter.unusedSimpArgs false

theorem sideE_in {g : G19} (n : Int) (h : rightE g = true) : 0 ≤ sideE g n ∧ sideE g n < g.cols := by
  have := rightE_cols h
  unfold sideE
  rw [h, cond_true]
  exact ⟨Int.emod_nonneg _ (by omega), Int.emod_lt_of_pos _ (by omega)⟩
theorem xE_in {g : G19} (n : Int) (h : rightE g = true) : 0 ≤ sideE g n * (g.wide + g.gap) ∧ sideE g n * (g.wide + g.gap) ≤ 17179869168 := by
  have h1 := sideE_in n h
  have h2 := rightE_cols h
  have h3 := rightE_wide h
  have h4 : 0 ≤ sideE g n * (g.wide + g.gap) := Int.mul_nonneg h1.1 (by omega)
  have h5 : sideE g n * (g.wide + g.gap) ≤ 8 * 2147483646 := Int.mul_le_mul (by omega) (by omega) (by omega) (by omega)
  omega
end Go.Proofs.YthcgncgnbjhniaaGreat
namespace Go.Proofs.YthcgncgnbjhniaaGreat
open Go.RowKit
set_option maxRecDepth 20000
set_option linter.unusedVariables false
set_option linter.unusedSimpArgs false

def zeroG : G19 := ⟨0, 0, 0, 0, 0, 0, 0, 0, 0, 0, 0, 0, 0, 0, 0, 0, 0, 0, false⟩
theorem geo_one (g : G19) : (geoC g).all (·.oneCell') = true := by kernel_rfl
theorem geo_size (g : G19) : (geoC g).size = 19 := rfl
theorem store_geo {ops : Array Oper} {rest : List Oper} {o : Oper} {a : Act} {w : World} {Q : Exit → Act → World → Prop} {b : Nat} {g h : G19} (hgd : o.guard = none) (x y : Operand) (ho : o.op = .store 24 x y)
    (hx : a.eval x = .pointer (some ⟨b, 0, none⟩)) (hy : a.eval y = .agg (geoC g)) (hb : GeoAt w b h) (hk : wpList Tryz.prog ops Q rest (a.put o.dst undef) (w.setRow b (geoC g))) : wpList Tryz.prog ops Q (o :: rest) a w :=
  wpList_store_row hgd 24 x y ho b (geoC g) hx hy 24 (geoC h) hb info24 rfl (geo_one g) hk
theorem GeoAt.row {w : World} {b : Nat} {h : G19} (H : GeoAt w b h) (g : G19) : GeoAt (w.setRow b (geoC g)) b g := Blk.row H (geoC g)
theorem GeoAt.row_other {w : World} {b c : Nat} {h : G19} (H : GeoAt w b h) (hb : b ≠ c) (ds : Array Value) : GeoAt (w.setRow c ds) b h := Blk.row_other H hb ds
theorem alloc_geo {ops : Array Oper} {rest : List Oper} {o : Oper} {a : Act} {w : World} {Q : Exit → Act → World → Prop} (hgd : o.guard = none) (ho : o.op = .alloc 24)
    (hk : wpList Tryz.prog ops Q rest (a.put o.dst (.pointer (some ⟨w.heap.size, 0, none⟩))) (w.alloc (.cells (geoC zeroG) 24))) : wpList Tryz.prog ops Q (o :: rest) a w :=
  wpList_plain hgd fun K hK => by
    have e : (execOp a.eval o).run Tryz.prog w = .ok (.value (.pointer (some ⟨w.heap.size, 0, none⟩))) (w.alloc (.cells (geoC zeroG) 24)) := by
      unfold execOp
      simp only [ho]
      simp [go_sem, newVar, geoC, zeroG]
    unfold Oper.wp
    rw [e]
    exact hK _ _ hk
/-- A new variable that holds a geometry. -/
theorem make_geo {ops : Array Oper} {rest : List Oper} {o p : Oper} {a : Act} {w : World} {Q : Exit → Act → World → Prop} {g : G19} (hgd : o.guard = none) (ho : o.op = .alloc 24) (hgp : p.guard = none) (x y : Operand) (hp : p.op = .store 24 x y)
    (hx : (a.put o.dst (.pointer (some ⟨w.heap.size, 0, none⟩))).eval x = .pointer (some ⟨w.heap.size, 0, none⟩)) (hy : (a.put o.dst (.pointer (some ⟨w.heap.size, 0, none⟩))).eval y = .agg (geoC g))
    (hk : wpList Tryz.prog ops Q rest ((a.put o.dst (.pointer (some ⟨w.heap.size, 0, none⟩))).put p.dst undef) (w.alloc (.cells (geoC g) 24))) : wpList Tryz.prog ops Q (o :: p :: rest) a w := by
  refine alloc_geo hgd ho ?_
  refine store_geo hgp x y hp hx hy (geo_new w zeroG) ?_
  rw [World.setRow_alloc_new]
  exact hk
def wakeG : G19 := ⟨2, 100, 5, 100, 100, 0, 0, 0, 100, 100, 100, 4, 4, 0, 0, 0, 0, 0, false⟩
theorem wakeG_facts : pageE wakeG 5 = 2 ∧ sideE wakeG 5 = 1 ∧ errE wakeG = 0 ∧ xE wakeG 5 = 105 ∧ highE wakeG 0 = 100 ∧ colE wakeG 7 = 2 := by decide
theorem wakeG_set {w : World} {b : Nat} (h : GeoAt w b (plainE 2 100)) : GeoAt (w.setCell ⟨b, 2, none⟩ (.int .i64 5)) b wakeG := Blk.set h 2 _
end Go.Proofs.YthcgncgnbjhniaaGreat
