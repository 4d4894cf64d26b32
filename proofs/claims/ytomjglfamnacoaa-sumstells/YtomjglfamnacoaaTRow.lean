/- The small functions of package total and the document's: rowOf, total, nums, of. -/
import Derived.Test.YtomjglfamnacoaaTMath
import Derived.LoopN
import Derived.RegionTactic
import Derived.StillTailTactics
import Derived.BigQuiet
namespace Go.Proofs.Ytomjglfamnacoaa
open Go.RowKit
set_option maxRecDepth 20000
set_option linter.unusedVariables false

theorem tbel1 (w : World) (a : Obj) : Below w.heap.size w (w.alloc a) := (Below.refl _ _).alloc (Nat.le_refl _) _
theorem tbel2 (w : World) (a b : Obj) : Below w.heap.size w ((w.alloc a).alloc b) := (tbel1 w a).alloc (by simp) _
theorem tbel3 (w : World) (a b c : Obj) : Below w.heap.size w (((w.alloc a).alloc b).alloc c) := (tbel2 w a b).alloc (by simp; omega) _
theorem tstep {B : Nat} {w x y : World} (h : Below B w x) (g : Below x.heap.size x y) (hB : B ≤ x.heap.size) : Below B w y := h.trans (g.mono hB)
theorem at4 (a b c d : Value) : (∀ w, Sem.run Try.prog (Instr.index 29 (.agg #[a, b, c, d]) (.int .i64 0)) w = .ok a w) ∧ (∀ w, Sem.run Try.prog (Instr.index 29 (.agg #[a, b, c, d]) (.int .i64 1)) w = .ok b w) ∧
    (∀ w, Sem.run Try.prog (Instr.index 29 (.agg #[a, b, c, d]) (.int .i64 2)) w = .ok c w) ∧ (∀ w, Sem.run Try.prog (Instr.index 29 (.agg #[a, b, c, d]) (.int .i64 3)) w = .ok d w) :=
  ⟨fun _ => by kernel_rfl, fun _ => by kernel_rfl, fun _ => by kernel_rfl, fun _ => by kernel_rfl⟩
theorem rowOf_any (n s0 s1 s2 s3 h : Int) (w : World) :
    Calls Try.prog 39 #[.agg #[.int .i64 n, .int .i64 s0, .int .i64 s1, .int .i64 s2, .int .i64 s3, .int .i64 h]] w fun e w' => e = .returned (.agg #[.int .i64 s0, .int .i64 s1, .int .i64 s2, .int .i64 s3, .int .i64 n, .int .i64 h]) ∧ Below w.heap.size w w' := by
  obtain ⟨i0, i1, i2, i3⟩ := at4 (.int .i64 s0) (.int .i64 s1) (.int .i64 s2) (.int .i64 s3)
  go_enter Try.func39, Try.ntmps39
  go_wp2
  refine wp_loop_rounds 5 ?_
  rw [rounds_succ]
  go_wp2
  rw [rounds_succ]
  go_wp2
  rw [rounds_succ]
  go_wp2
  rw [rounds_succ]
  go_wp2
  rw [rounds_succ]
  go_wp2
  go_region
  all_goals
    go_wp2
    refine bodyPost_ret (v := .agg #[.int .i64 s0, .int .i64 s1, .int .i64 s2, .int .i64 s3, .int .i64 n, .int .i64 h]) (by simp [results, Try.results39, go_sem]) rfl ⟨rfl, ?_⟩
    exact (tbel3 w _ _ _).drew
theorem total_any (n s0 s1 s2 s3 h : Int) (w : World) :
    Calls Try.prog 41 #[.agg #[.int .i64 s0, .int .i64 s1, .int .i64 s2, .int .i64 s3, .int .i64 n, .int .i64 h]] w fun e w' => e = .returned (.agg #[.int .i64 n, .int .i64 s0, .int .i64 s1, .int .i64 s2, .int .i64 s3, .int .i64 h]) ∧ Below w.heap.size w w' := by
  go_enter Try.func41, Try.ntmps41
  go_wp2
  refine wp_loop_rounds 5 ?_
  rw [rounds_succ]
  go_wp2
  rw [rounds_succ]
  go_wp2
  rw [rounds_succ]
  go_wp2
  rw [rounds_succ]
  go_wp2
  rw [rounds_succ]
  go_wp2
  refine bodyPost_ret (v := .agg #[.int .i64 n, .int .i64 s0, .int .i64 s1, .int .i64 s2, .int .i64 s3, .int .i64 h]) (by simp [results, Try.results41, go_sem]) rfl ⟨rfl, ?_⟩
  exact tbel3 w _ _ _
theorem nums_any (n s0 s1 s2 s3 h : Int) (w : World) :
    Calls Try.prog 26 #[.agg #[.int .i64 n, .int .i64 s0, .int .i64 s1, .int .i64 s2, .int .i64 s3, .int .i64 h]] w fun e w' => e = .returned (.agg #[.int .i64 n, .int .i64 s0, .int .i64 s1, .int .i64 s2, .int .i64 s3, .int .i64 h]) ∧ Below w.heap.size w w' := by
  go_enter Try.func26, Try.ntmps26
  go_wp2
  refine bodyPost_ret (v := .agg #[.int .i64 n, .int .i64 s0, .int .i64 s1, .int .i64 s2, .int .i64 s3, .int .i64 h]) (by simp [results, Try.results26, go_sem]) rfl ⟨rfl, ?_⟩
  exact tbel2 w _ _
theorem t_of_any (n s0 s1 s2 s3 h : Int) (w : World) :
    Calls Try.prog 28 #[.agg #[.int .i64 n, .int .i64 s0, .int .i64 s1, .int .i64 s2, .int .i64 s3, .int .i64 h]] w fun e w' => e = .returned (.agg #[.int .i64 n, .int .i64 s0, .int .i64 s1, .int .i64 s2, .int .i64 s3, .int .i64 h]) ∧ Below w.heap.size w w' := by
  go_enter Try.func28, Try.ntmps28
  go_wp2
  refine bodyPost_ret (v := .agg #[.int .i64 n, .int .i64 s0, .int .i64 s1, .int .i64 s2, .int .i64 s3, .int .i64 h]) (by simp [results, Try.results28, go_sem]) rfl ⟨rfl, ?_⟩
  exact tbel2 w _ _
end Go.Proofs.Ytomjglfamnacoaa
