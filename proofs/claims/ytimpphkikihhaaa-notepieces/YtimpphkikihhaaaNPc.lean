/- The walk of NotePieces. -/
import Derived.Test.YtimpphkikihhaaaNAw
import Derived.Test.YtimpphkikihhaaaNLin
import Derived.Test.YtimpphkikihhaaaNPm
import Derived.Test.YtimpphkikihhaaaSIs
import Derived.Test.YtimpphkikihhaaaDetV
namespace Go.Proofs.Ytimpphkikihhaaa
open Go.RowKit
set_option maxRecDepth 20000
set_option linter.unusedVariables false
set_option linter.unusedSimpArgs false

/-- A slice that holds the numbers S. -/
def RowP (S : List Int) (v : Value) (y : World) : Prop := ∃ a c, v = .slice a S.length c ∧ IRow y.heap.size y a S
section
variable {P : Program} {ops : Array Oper} {R : Act → World → Prop} {W : World} {o : Oper} {l : List (Oper × Bool)} {a : Act}
theorem TextV.loudv {V : Value → World → Prop} (c : ∀ w, Old W w → ∃ v x, (execOp a.eval o).run P w = .ok (.value v) x ∧ V v x ∧ Below w.heap.size w x) (hw : Region.wanted o (yielded ops a.tmps) = true)
    (hn : ∀ v y, V v y → Old W y → TextV P ops R l (a.put o.dst v) y) : TextV P ops R ((o, false) :: l) a W :=
  ⟨V, ⟨hw, fun w hS => .inl (c w hS)⟩, hn⟩
end
theorem run_build3 (u v u' v' : Value) (x : World) : (Instr.buildSlice 38 3 #[(0, .agg #[u, v]), (1, .agg #[u', v']), (2, .agg #[u, v])]).run Try.prog x = .ok (.slice (some ⟨x.heap.size, 0, none⟩) 3 3) (x.alloc (.cells #[u, v, u', v', u, v] 25)) := by
  simp [go_sem]
theorem build_three (o : Oper) (a : Act) (u v u' v' : Value) (s s' s'' : Operand) (ho : o.op = .buildSlice 38 3 #[(0, s), (1, s'), (2, s'')]) (hs : a.eval s = .agg #[u, v]) (hs' : a.eval s' = .agg #[u', v']) (hs'' : a.eval s'' = .agg #[u, v]) (x : World) :
    (execOp a.eval o).run Try.prog x = .ok (.value (.slice (some ⟨x.heap.size, 0, none⟩) 3 3)) (x.alloc (.cells #[u, v, u', v', u, v] 25)) := by
  unfold execOp
  simp only [ho, List.map_toArray, List.map_cons, List.map_nil, hs, hs', hs'', Sem.run_bind, run_build3, Result.andThen_ok, Sem.run_pure]
end Go.Proofs.Ytimpphkikihhaaa
