/- 'small' of the law. -/
import Derived.Test.YtaeglilffbdlkaaTRow
namespace Go.Proofs.Ytaeglilffbdlkaa
open Go.RowKit
set_option linter.unusedVariables false

def is50 (x : Int) : Prop := 0 ≤ x ∧ x ≤ 1125899906842624
instance (x : Int) : Decidable (is50 x) := by unfold is50; exact inferInstance
def smallT (t : T6) : Prop := is50 t.s0 ∧ is50 t.s1 ∧ is50 t.s2 ∧ is50 t.s3 ∧ is50 t.n ∧ is50 t.h
instance (t : T6) : Decidable (smallT t) := by unfold smallT; exact inferInstance
theorem small_0 (n s0 s1 s2 s3 h : Int) (w : World)  (hk : ¬ is50 s0) : Calls Try.prog 21 #[.agg #[.int .i64 n, .int .i64 s0, .int .i64 s1, .int .i64 s2, .int .i64 s3, .int .i64 h]] w fun e w' => e = .returned (.bool false) ∧ Below w.heap.size w w' := by
  unfold is50 at hk
  by_cases hn : s0 < 0
  all_goals
    go_enter Try.func21, Try.ntmps21
    go_wp2
    refine wp_loop_rounds 5 ?_
    rw [rounds_succ]
    go_wp2
    go_ret
    exact ⟨rfl, tbel1 w _⟩
theorem small_1 (n s0 s1 s2 s3 h : Int) (w : World) (h0 : is50 s0) (hk : ¬ is50 s1) : Calls Try.prog 21 #[.agg #[.int .i64 n, .int .i64 s0, .int .i64 s1, .int .i64 s2, .int .i64 s3, .int .i64 h]] w fun e w' => e = .returned (.bool false) ∧ Below w.heap.size w w' := by
  obtain ⟨l0, u0⟩ := h0
  unfold is50 at hk
  by_cases hn : s1 < 0
  all_goals
    go_enter Try.func21, Try.ntmps21
    go_wp2
    refine wp_loop_rounds 5 ?_
    rw [rounds_succ]
    go_wp2
    rw [rounds_succ]
    go_wp2
    go_ret
    exact ⟨rfl, tbel1 w _⟩
theorem small_2 (n s0 s1 s2 s3 h : Int) (w : World) (h0 : is50 s0) (h1 : is50 s1) (hk : ¬ is50 s2) : Calls Try.prog 21 #[.agg #[.int .i64 n, .int .i64 s0, .int .i64 s1, .int .i64 s2, .int .i64 s3, .int .i64 h]] w fun e w' => e = .returned (.bool false) ∧ Below w.heap.size w w' := by
  obtain ⟨l0, u0⟩ := h0
  obtain ⟨l1, u1⟩ := h1
  unfold is50 at hk
  by_cases hn : s2 < 0
  all_goals
    go_enter Try.func21, Try.ntmps21
    go_wp2
    refine wp_loop_rounds 5 ?_
    rw [rounds_succ]
    go_wp2
    rw [rounds_succ]
    go_wp2
    rw [rounds_succ]
    go_wp2
    go_ret
    exact ⟨rfl, tbel1 w _⟩
theorem small_3 (n s0 s1 s2 s3 h : Int) (w : World) (h0 : is50 s0) (h1 : is50 s1) (h2 : is50 s2) (hk : ¬ is50 s3) : Calls Try.prog 21 #[.agg #[.int .i64 n, .int .i64 s0, .int .i64 s1, .int .i64 s2, .int .i64 s3, .int .i64 h]] w fun e w' => e = .returned (.bool false) ∧ Below w.heap.size w w' := by
  obtain ⟨l0, u0⟩ := h0
  obtain ⟨l1, u1⟩ := h1
  obtain ⟨l2, u2⟩ := h2
  unfold is50 at hk
  by_cases hn : s3 < 0
  all_goals
    go_enter Try.func21, Try.ntmps21
    go_wp2
    refine wp_loop_rounds 5 ?_
    rw [rounds_succ]
    go_wp2
    rw [rounds_succ]
    go_wp2
    rw [rounds_succ]
    go_wp2
    rw [rounds_succ]
    go_wp2
    go_ret
    exact ⟨rfl, tbel1 w _⟩
theorem small_e0 (n s0 s1 s2 s3 h : Int) (w : World) (h0 : is50 s0) (h1 : is50 s1) (h2 : is50 s2) (h3 : is50 s3) (a0 : n < 0) : Calls Try.prog 21 #[.agg #[.int .i64 n, .int .i64 s0, .int .i64 s1, .int .i64 s2, .int .i64 s3, .int .i64 h]] w fun e w' => e = .returned (.bool false) ∧ Below w.heap.size w w' := by
  obtain ⟨l0, u0⟩ := h0
  obtain ⟨l1, u1⟩ := h1
  obtain ⟨l2, u2⟩ := h2
  obtain ⟨l3, u3⟩ := h3
  go_enter Try.func21, Try.ntmps21
  go_wp2
  refine wp_loop_rounds 5 ?_
  rw [rounds_succ]
  go_wp2
  rw [rounds_succ]
  go_wp2
  rw [rounds_succ]
  go_wp2
  rw [rounds_succ]
  go_wp2
  rw [rounds_succ]
  go_wp2
  go_ret
  exact ⟨rfl, tbel1 w _⟩
theorem small_e1 (n s0 s1 s2 s3 h : Int) (w : World) (h0 : is50 s0) (h1 : is50 s1) (h2 : is50 s2) (h3 : is50 s3) (a0 : 0 ≤ n) (a1 : 1125899906842624 < n) : Calls Try.prog 21 #[.agg #[.int .i64 n, .int .i64 s0, .int .i64 s1, .int .i64 s2, .int .i64 s3, .int .i64 h]] w fun e w' => e = .returned (.bool false) ∧ Below w.heap.size w w' := by
  obtain ⟨l0, u0⟩ := h0
  obtain ⟨l1, u1⟩ := h1
  obtain ⟨l2, u2⟩ := h2
  obtain ⟨l3, u3⟩ := h3
  go_enter Try.func21, Try.ntmps21
  go_wp2
  refine wp_loop_rounds 5 ?_
  rw [rounds_succ]
  go_wp2
  rw [rounds_succ]
  go_wp2
  rw [rounds_succ]
  go_wp2
  rw [rounds_succ]
  go_wp2
  rw [rounds_succ]
  go_wp2
  go_ret
  exact ⟨rfl, tbel1 w _⟩
theorem small_e2 (n s0 s1 s2 s3 h : Int) (w : World) (h0 : is50 s0) (h1 : is50 s1) (h2 : is50 s2) (h3 : is50 s3) (a0 : 0 ≤ n) (a1 : n ≤ 1125899906842624) (a2 : h < 0) : Calls Try.prog 21 #[.agg #[.int .i64 n, .int .i64 s0, .int .i64 s1, .int .i64 s2, .int .i64 s3, .int .i64 h]] w fun e w' => e = .returned (.bool false) ∧ Below w.heap.size w w' := by
  obtain ⟨l0, u0⟩ := h0
  obtain ⟨l1, u1⟩ := h1
  obtain ⟨l2, u2⟩ := h2
  obtain ⟨l3, u3⟩ := h3
  go_enter Try.func21, Try.ntmps21
  go_wp2
  refine wp_loop_rounds 5 ?_
  rw [rounds_succ]
  go_wp2
  rw [rounds_succ]
  go_wp2
  rw [rounds_succ]
  go_wp2
  rw [rounds_succ]
  go_wp2
  rw [rounds_succ]
  go_wp2
  go_ret
  exact ⟨rfl, tbel1 w _⟩
theorem small_e3 (n s0 s1 s2 s3 h : Int) (w : World) (h0 : is50 s0) (h1 : is50 s1) (h2 : is50 s2) (h3 : is50 s3) (a0 : 0 ≤ n) (a1 : n ≤ 1125899906842624) (a2 : 0 ≤ h) (a3 : 1125899906842624 < h) (a4 : decide (h ≤ 1125899906842624) = false) : Calls Try.prog 21 #[.agg #[.int .i64 n, .int .i64 s0, .int .i64 s1, .int .i64 s2, .int .i64 s3, .int .i64 h]] w fun e w' => e = .returned (.bool false) ∧ Below w.heap.size w w' := by
  obtain ⟨l0, u0⟩ := h0
  obtain ⟨l1, u1⟩ := h1
  obtain ⟨l2, u2⟩ := h2
  obtain ⟨l3, u3⟩ := h3
  go_enter Try.func21, Try.ntmps21
  go_wp2
  refine wp_loop_rounds 5 ?_
  rw [rounds_succ]
  go_wp2
  rw [rounds_succ]
  go_wp2
  rw [rounds_succ]
  go_wp2
  rw [rounds_succ]
  go_wp2
  rw [rounds_succ]
  go_wp2
  go_ret
  exact ⟨rfl, tbel1 w _⟩
theorem small_e4 (n s0 s1 s2 s3 h : Int) (w : World) (h0 : is50 s0) (h1 : is50 s1) (h2 : is50 s2) (h3 : is50 s3) (a0 : 0 ≤ n) (a1 : n ≤ 1125899906842624) (a2 : 0 ≤ h) (a3 : h ≤ 1125899906842624) : Calls Try.prog 21 #[.agg #[.int .i64 n, .int .i64 s0, .int .i64 s1, .int .i64 s2, .int .i64 s3, .int .i64 h]] w fun e w' => e = .returned (.bool true) ∧ Below w.heap.size w w' := by
  obtain ⟨l0, u0⟩ := h0
  obtain ⟨l1, u1⟩ := h1
  obtain ⟨l2, u2⟩ := h2
  obtain ⟨l3, u3⟩ := h3
  go_enter Try.func21, Try.ntmps21
  go_wp2
  refine wp_loop_rounds 5 ?_
  rw [rounds_succ]
  go_wp2
  rw [rounds_succ]
  go_wp2
  rw [rounds_succ]
  go_wp2
  rw [rounds_succ]
  go_wp2
  rw [rounds_succ]
  go_wp2
  go_ret
  exact ⟨rfl, tbel1 w _⟩
theorem small_any (t : T6) (w : World) : Calls Try.prog 21 #[tot t] w fun e w' => e = .returned (.bool (decide (smallT t))) ∧ Below w.heap.size w w' := by
  by_cases h0 : is50 t.s0
  · by_cases h1 : is50 t.s1
    · by_cases h2 : is50 t.s2
      · by_cases h3 : is50 t.s3
        · by_cases a0 : t.n < 0
          · rw [show decide (smallT t) = false from decide_eq_false (by unfold smallT is50; omega)]
            exact small_e0 _ _ _ _ _ _ w h0 h1 h2 h3 a0
          · by_cases a1 : 1125899906842624 < t.n
            · rw [show decide (smallT t) = false from decide_eq_false (by unfold smallT is50; omega)]
              exact small_e1 _ _ _ _ _ _ w h0 h1 h2 h3 (by omega) a1
            · by_cases a2 : t.h < 0
              · rw [show decide (smallT t) = false from decide_eq_false (by unfold smallT is50; omega)]
                exact small_e2 _ _ _ _ _ _ w h0 h1 h2 h3 (by omega) (by omega) a2
              · by_cases a3 : 1125899906842624 < t.h
                · rw [show decide (smallT t) = false from decide_eq_false (by unfold smallT is50; omega)]
                  exact small_e3 _ _ _ _ _ _ w h0 h1 h2 h3 (by omega) (by omega) (by omega) a3 (decide_eq_false (by omega))
                · rw [show decide (smallT t) = true from decide_eq_true ⟨h0, h1, h2, h3, ⟨by omega, by omega⟩, by omega, by omega⟩]
                  exact small_e4 _ _ _ _ _ _ w h0 h1 h2 h3 (by omega) (by omega) (by omega) (by omega)
        · rw [show decide (smallT t) = false by simp [smallT, h3]]
          exact small_3 _ _ _ _ _ _ w h0 h1 h2 h3
      · rw [show decide (smallT t) = false by simp [smallT, h2]]
        exact small_2 _ _ _ _ _ _ w h0 h1 h2
    · rw [show decide (smallT t) = false by simp [smallT, h1]]
      exact small_1 _ _ _ _ _ _ w h0 h1
  · rw [show decide (smallT t) = false by simp [smallT, h0]]
    exact small_0 _ _ _ _ _ _ w h0
end Go.Proofs.Ytaeglilffbdlkaa
