/- '==' of totals and of the document's results. -/
import Derived.Test.YtomjglfamnacoaaTMath
namespace Go.Proofs.Ytomjglfamnacoaa
open Go.RowKit
set_option maxRecDepth 20000
set_option linter.unusedVariables false

theorem sz_sp (w : World) : (sizeOf 28).run Try.prog w = .ok 1 w := by kernel_rfl
theorem pt4 (a b c d : Value) : (∀ w, (part 28 #[a, b, c, d] 0).run Try.prog w = .ok a w) ∧ (∀ w, (part 28 #[a, b, c, d] 1).run Try.prog w = .ok b w) ∧ (∀ w, (part 28 #[a, b, c, d] 2).run Try.prog w = .ok c w) ∧ (∀ w, (part 28 #[a, b, c, d] 3).run Try.prog w = .ok d w) :=
  ⟨fun _ => by kernel_rfl, fun _ => by kernel_rfl, fun _ => by kernel_rfl, fun _ => by kernel_rfl⟩
@[go_sem] theorem eq_arr (d : Nat) (a b c e : Int) (w : World) : (Op.equalIn (d + 1 + 1) 29 (.agg #[.int .i64 a, .int .i64 b, .int .i64 c, .int .i64 e]) (.agg #[.int .i64 a, .int .i64 b, .int .i64 c, .int .i64 e])).run Try.prog w = .ok true w := by
  rw [Op.equalIn]
  have q := fun x => run_equalIn_int (P := Try.prog) w d 28 .i64 .i64 x x Try.underlying28
  obtain ⟨p0, p1, p2, p3⟩ := pt4 (.int .i64 a) (.int .i64 b) (.int .i64 c) (.int .i64 e)
  generalize Op.equalIn (d + 1) = E at q ⊢
  simp only [Sem.run_bind, run_underlying Try.underlying29, Result.andThen_ok, sz_sp]
  simp [Std.Legacy.Range.forIn_eq_forIn_range', List.range', p0, p1, p2, p3, q]
theorem eql_tot {o : Oper} {a : Act} (x y : Operand) (ho : o.op = .binOp .eql 31 x y 31) {n s0 s1 s2 s3 h : Int} (hx : a.eval x = .agg #[.int .i64 n, .int .i64 s0, .int .i64 s1, .int .i64 s2, .int .i64 s3, .int .i64 h]) (hy : a.eval y = .agg #[.int .i64 n, .int .i64 s0, .int .i64 s1, .int .i64 s2, .int .i64 s3, .int .i64 h]) (w : World) :
    (execOp a.eval o).run Try.prog w = .ok (.value (.bool true)) w := by
  unfold execOp
  simp only [ho, hx, hy]
  simp [go_sem]
theorem neq_tot {o : Oper} {a : Act} (x y : Operand) (ho : o.op = .binOp .neq 31 x y 31) {n s0 s1 s2 s3 h : Int} (hx : a.eval x = .agg #[.int .i64 n, .int .i64 s0, .int .i64 s1, .int .i64 s2, .int .i64 s3, .int .i64 h]) (hy : a.eval y = .agg #[.int .i64 n, .int .i64 s0, .int .i64 s1, .int .i64 s2, .int .i64 s3, .int .i64 h]) (w : World) :
    (execOp a.eval o).run Try.prog w = .ok (.value (.bool false)) w := by
  unfold execOp
  simp only [ho, hx, hy]
  simp [go_sem]
theorem eql_res {o : Oper} {a : Act} (x y : Operand) (ho : o.op = .binOp .eql 44 x y 44) {n s0 s1 s2 s3 h : Int} {f : Bool} (hx : a.eval x = .agg #[.int .i64 n, .int .i64 s0, .int .i64 s1, .int .i64 s2, .int .i64 s3, .int .i64 h, .bool f]) (hy : a.eval y = .agg #[.int .i64 n, .int .i64 s0, .int .i64 s1, .int .i64 s2, .int .i64 s3, .int .i64 h, .bool f]) (w : World) :
    (execOp a.eval o).run Try.prog w = .ok (.value (.bool true)) w := by
  unfold execOp
  simp only [ho, hx, hy]
  simp [go_sem]
end Go.Proofs.Ytomjglfamnacoaa
