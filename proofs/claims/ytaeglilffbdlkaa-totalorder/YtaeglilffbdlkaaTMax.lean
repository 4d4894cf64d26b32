/- max of three, as an operation. -/
import Derived.Test.YtaeglilffbdlkaaTMath
import Derived.Test.YtaeglilffbdlkaaDet
import Derived.Laws.Cover1
namespace Go.Proofs.Ytaeglilffbdlkaa
open Go.RowKit
theorem max_op {o : Oper} {a : Act} (x y z : Operand) (ho : o.op = .call { callee := .builtin .max, args := #[x, y, z], argTypes := #[3, 3, 3] }) {p q r m : Int} (hx : a.eval x = .int .i64 p) (hy : a.eval y = .int .i64 q) (hz : a.eval z = .int .i64 r) (hm : max (max p q) r = m) (w : World) :
    (execOp a.eval o).run Try.prog w = .ok (.value (.int .i64 m)) w := by
  unfold execOp
  simp only [ho, resolve, invoke, builtin, Sem.run_bind, Sem.run_pure, Result.andThen_ok, List.map_toArray, List.map_cons, List.map_nil, hx, hy, hz, run_max_int3]
  rw [← hm]
  congr 3
  split <;> split <;> omega
end Go.Proofs.Ytaeglilffbdlkaa
