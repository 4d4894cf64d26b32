/- Box, Glue, Order, Least of package total and the document's; 'small' of the law. -/
import Derived.Test.YtojphpncidjdiaaTRow
import Derived.Test.YtojphpncidjdiaaBlk
namespace Go.Proofs.Ytojphpncidjdiaa
open Go.RowKit
set_option maxRecDepth 20000
set_option linter.unusedVariables false
set_option linter.unusedSimpArgs false

theorem order_3 (n s0 s1 s2 s3 h : Int) (w : World) (h3 : (s3 != 0) = true) : Calls Try.prog 35 #[.agg #[.int .i64 n, .int .i64 s0, .int .i64 s1, .int .i64 s2, .int .i64 s3, .int .i64 h]] w fun e w' => e = .returned (.int .i64 3) ∧ Below w.heap.size w w' := by
  go_enter Try.func35, Try.ntmps35
  go_wp2
  refine wp_loop_rounds 4 ?_
  rw [rounds_succ]
  go_wp2
  go_ret
  exact ⟨rfl, tbel1 w _⟩
theorem order_2 (n s0 s1 s2 s3 h : Int) (w : World) (h3 : (s3 != 0) = false) (h2 : (s2 != 0) = true) : Calls Try.prog 35 #[.agg #[.int .i64 n, .int .i64 s0, .int .i64 s1, .int .i64 s2, .int .i64 s3, .int .i64 h]] w fun e w' => e = .returned (.int .i64 2) ∧ Below w.heap.size w w' := by
  go_enter Try.func35, Try.ntmps35
  go_wp2
  refine wp_loop_rounds 4 ?_
  rw [rounds_succ]
  go_wp2
  rw [rounds_succ]
  go_wp2
  go_ret
  exact ⟨rfl, tbel1 w _⟩
theorem order_1 (n s0 s1 s2 s3 h : Int) (w : World) (h3 : (s3 != 0) = false) (h2 : (s2 != 0) = false) (h1 : (s1 != 0) = true) : Calls Try.prog 35 #[.agg #[.int .i64 n, .int .i64 s0, .int .i64 s1, .int .i64 s2, .int .i64 s3, .int .i64 h]] w fun e w' => e = .returned (.int .i64 1) ∧ Below w.heap.size w w' := by
  go_enter Try.func35, Try.ntmps35
  go_wp2
  refine wp_loop_rounds 4 ?_
  rw [rounds_succ]
  go_wp2
  rw [rounds_succ]
  go_wp2
  rw [rounds_succ]
  go_wp2
  go_ret
  exact ⟨rfl, tbel1 w _⟩
theorem order_0 (n s0 s1 s2 s3 h : Int) (w : World) (h3 : (s3 != 0) = false) (h2 : (s2 != 0) = false) (h1 : (s1 != 0) = false) : Calls Try.prog 35 #[.agg #[.int .i64 n, .int .i64 s0, .int .i64 s1, .int .i64 s2, .int .i64 s3, .int .i64 h]] w fun e w' => e = .returned (.int .i64 0) ∧ Below w.heap.size w w' := by
  go_enter Try.func35, Try.ntmps35
  go_wp2
  refine wp_loop_rounds 4 ?_
  rw [rounds_succ]
  go_wp2
  rw [rounds_succ]
  go_wp2
  rw [rounds_succ]
  go_wp2
  rw [rounds_succ]
  go_wp2
  go_ret
  exact ⟨rfl, tbel1 w _⟩
theorem order_any (t : T6) (w : World) : Calls Try.prog 35 #[tot t] w fun e w' => e = .returned (.int .i64 (ordT t)) ∧ Below w.heap.size w w' := by
  unfold ordT
  by_cases h3 : t.s3 = 0
  · rw [if_neg (by simpa using h3)]
    by_cases h2 : t.s2 = 0
    · rw [if_neg (by simpa using h2)]
      by_cases h1 : t.s1 = 0
      · rw [if_neg (by simpa using h1)]
        exact order_0 _ _ _ _ _ _ w (by simpa using h3) (by simpa using h2) (by simpa using h1)
      · rw [if_pos h1]
        exact order_1 _ _ _ _ _ _ w (by simpa using h3) (by simpa using h2) (by simpa using h1)
    · rw [if_pos h2]
      exact order_2 _ _ _ _ _ _ w (by simpa using h3) (by simpa using h2)
  · rw [if_pos h3]
    exact order_3 _ _ _ _ _ _ w (by simpa using h3)
theorem rorder_walk (n s0 s1 s2 s3 h : Int) (b0 b1 b2 b3 : Bool) (w : World) (h0 : (s0 != 0) = b0) (h1 : (s1 != 0) = b1) (h2 : (s2 != 0) = b2) (h3 : (s3 != 0) = b3) : Calls Try.prog 21 #[.agg #[.int .i64 n, .int .i64 s0, .int .i64 s1, .int .i64 s2, .int .i64 s3, .int .i64 h]] w fun e w' => e = .returned (.int .i64 (bif b3 then 3 else bif b2 then 2 else bif b1 then 1 else 0)) ∧ Below w.heap.size w w' := by
  go_enter Try.func21, Try.ntmps21
  go_wp2
  refine wp_loop_rounds 5 ?_
  cases b0
  all_goals
    rw [rounds_succ]
    go_wp2
    cases b1
  all_goals
    rw [rounds_succ]
    go_wp2
    cases b2
  all_goals
    rw [rounds_succ]
    go_wp2
    cases b3
  all_goals
    rw [rounds_succ]
    go_wp2
    rw [rounds_succ]
    go_wp2
    go_ret
    exact ⟨rfl, tbel1 w _⟩
theorem rorder_any (t : T6) (w : World) : Calls Try.prog 21 #[tot t] w fun e w' => e = .returned (.int .i64 (ordT t)) ∧ Below w.heap.size w w' := by
  refine (rorder_walk t.n t.s0 t.s1 t.s2 t.s3 t.h _ _ _ _ w rfl rfl rfl rfl).mono ?_
  rintro e w' ⟨rfl, hw⟩
  refine ⟨?_, hw⟩
  unfold ordT
  simp only [Bool.cond_eq_ite, bne_iff_ne]
end Go.Proofs.Ytojphpncidjdiaa
