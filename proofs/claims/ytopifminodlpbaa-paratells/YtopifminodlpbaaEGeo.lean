/- A geometry in a block: read whole, made, stored whole. -/
import Derived.Test.YtopifminodlpbaaEWith
import Derived.Deep.WholeRow
import Derived.WalkSmall
namespace Go.Proofs.Ytopifminodlpbaa
open Go.RowKit
set_option maxRecDepth 20000
set_option linter.unusedVariables false
set_option linter.unusedSimpArgs false

theorem info24 : (Try.prog.info? 24).map (·.size) = some 19 := by kernel_rfl
/-- A geometry is loaded whole. -/
theorem load_geo {o : Oper} {a : Act} {w : World} {g : G19} {b : Nat} (x : Operand) (ho : o.op = .load 24 x) (hx : a.eval x = .pointer (some ⟨b, 0, none⟩)) (h : GeoAt w b g) :
    (execOp a.eval o).run Try.prog w = .ok (.value (.agg (geoC g))) w := by
  unfold execOp
  simp only [ho, hx, Instr.loadAt, Instr.sureAddr, Sem.run_bind, Sem.run_pure, Result.andThen_ok, run_loadVar_row w b 24 24 (geoC g) (0, 0) _ h Try.underlying24 rfl info24]
theorem geo_new (w : World) (g : G19) : GeoAt (w.alloc (.cells (geoC g) 24)) w.heap.size g := blk_new w (geoC g) 24
def zeroG : G19 := ⟨0, 0, 0, 0, 0, 0, 0, 0, 0, 0, 0, 0, 0, 0, 0, 0, 0, 0, false⟩
theorem geo_one (g : G19) : (geoC g).all (·.oneCell') = true := by kernel_rfl
theorem geo_size (g : G19) : (geoC g).size = 19 := rfl
theorem store_geo {ops : Array Oper} {rest : List Oper} {o : Oper} {a : Act} {w : World} {Q : Exit → Act → World → Prop} {b : Nat} {g h : G19} (hgd : o.guard = none) (x y : Operand) (ho : o.op = .store 24 x y)
    (hx : a.eval x = .pointer (some ⟨b, 0, none⟩)) (hy : a.eval y = .agg (geoC g)) (hb : GeoAt w b h) (hk : wpList Try.prog ops Q rest (a.put o.dst undef) (w.setRow b (geoC g))) : wpList Try.prog ops Q (o :: rest) a w :=
  wpList_store_row hgd 24 x y ho b (geoC g) hx hy 24 (geoC h) hb info24 rfl (geo_one g) hk
theorem GeoAt.row {w : World} {b : Nat} {h : G19} (H : GeoAt w b h) (g : G19) : GeoAt (w.setRow b (geoC g)) b g := Blk.row H (geoC g)
theorem GeoAt.row_other {w : World} {b c : Nat} {h : G19} (H : GeoAt w b h) (hb : b ≠ c) (ds : Array Value) : GeoAt (w.setRow c ds) b h := Blk.row_other H hb ds
theorem alloc_geo {ops : Array Oper} {rest : List Oper} {o : Oper} {a : Act} {w : World} {Q : Exit → Act → World → Prop} (hgd : o.guard = none) (ho : o.op = .alloc 24)
    (hk : wpList Try.prog ops Q rest (a.put o.dst (.pointer (some ⟨w.heap.size, 0, none⟩))) (w.alloc (.cells (geoC zeroG) 24))) : wpList Try.prog ops Q (o :: rest) a w :=
  wpList_plain hgd fun K hK => by
    have e : (execOp a.eval o).run Try.prog w = .ok (.value (.pointer (some ⟨w.heap.size, 0, none⟩))) (w.alloc (.cells (geoC zeroG) 24)) := by
      unfold execOp
      simp only [ho]
      simp [go_sem, newVar, geoC, zeroG]
    unfold Oper.wp
    rw [e]
    exact hK _ _ hk
/-- A new variable that holds a geometry. -/
theorem make_geo {ops : Array Oper} {rest : List Oper} {o p : Oper} {a : Act} {w : World} {Q : Exit → Act → World → Prop} {g : G19} (hgd : o.guard = none) (ho : o.op = .alloc 24) (hgp : p.guard = none) (x y : Operand) (hp : p.op = .store 24 x y)
    (hx : (a.put o.dst (.pointer (some ⟨w.heap.size, 0, none⟩))).eval x = .pointer (some ⟨w.heap.size, 0, none⟩)) (hy : (a.put o.dst (.pointer (some ⟨w.heap.size, 0, none⟩))).eval y = .agg (geoC g))
    (hk : wpList Try.prog ops Q rest ((a.put o.dst (.pointer (some ⟨w.heap.size, 0, none⟩))).put p.dst undef) (w.alloc (.cells (geoC g) 24))) : wpList Try.prog ops Q (o :: p :: rest) a w := by
  refine alloc_geo hgd ho ?_
  refine store_geo hgp x y hp hx hy (geo_new w zeroG) ?_
  rw [World.setRow_alloc_new]
  exact hk
end Go.Proofs.Ytopifminodlpbaa
