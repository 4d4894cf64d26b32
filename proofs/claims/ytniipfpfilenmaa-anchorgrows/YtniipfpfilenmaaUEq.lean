/- '==' of arrays of three numbers. -/
import Derived.Test.YtniipfpfilenmaaTMath
namespace Go.Proofs.Ytniipfpfilenmaa
open Go.RowKit
set_option maxRecDepth 20000
set_option linter.unusedVariables false

theorem sz_int3 (w : World) : (sizeOf 3).run Try.prog w = .ok 1 w := by kernel_rfl
theorem pt3 (a b c : Value) : (∀ w, (part 3 #[a, b, c] (0 : Nat)).run Try.prog w = .ok a w) ∧ (∀ w, (part 3 #[a, b, c] (1 : Nat)).run Try.prog w = .ok b w) ∧ (∀ w, (part 3 #[a, b, c] (2 : Nat)).run Try.prog w = .ok c w) :=
  ⟨fun _ => by kernel_rfl, fun _ => by kernel_rfl, fun _ => by kernel_rfl⟩
@[go_sem] theorem eq_arr3 (d : Nat) (a b c : Int) (w : World) : (Op.equalIn (d + 1 + 1) 33 (.agg #[.int .i64 a, .int .i64 b, .int .i64 c]) (.agg #[.int .i64 a, .int .i64 b, .int .i64 c])).run Try.prog w = .ok true w := by
  rw [Op.equalIn]
  have q := fun x => run_equalIn_int (P := Try.prog) w d 3 .i64 .i64 x x Try.underlying3
  obtain ⟨p0, p1, p2⟩ := pt3 (.int .i64 a) (.int .i64 b) (.int .i64 c)
  generalize Op.equalIn (d + 1) = E at q ⊢
  simp only [Sem.run_bind, run_underlying Try.underlying33, Result.andThen_ok, sz_int3]
  simp [Std.Legacy.Range.forIn_eq_forIn_range', List.range', p0, p1, p2, q]
theorem eql_arr3 {o : Oper} {a : Act} (x y : Operand) (ho : o.op = .binOp .eql 33 x y 33) {n0 n1 n2 : Int} (hx : a.eval x = .agg #[.int .i64 n0, .int .i64 n1, .int .i64 n2]) (hy : a.eval y = .agg #[.int .i64 n0, .int .i64 n1, .int .i64 n2]) (w : World) :
    (execOp a.eval o).run Try.prog w = .ok (.value (.bool true)) w := by
  unfold execOp
  simp only [ho, hx, hy]
  simp [go_sem]
end Go.Proofs.Ytniipfpfilenmaa
