/- Box, Glue, Order, Least of package total and the document's; 'small' of the law. -/
import Derived.Test.YtaeglilffbdlkaaTRow
import Derived.Test.YtaeglilffbdlkaaBlk
namespace Go.Proofs.Ytaeglilffbdlkaa
open Go.RowKit
set_option linter.unusedVariables false
set_option linter.unusedSimpArgs false

theorem box_any (h : Int) (w : World) : Calls Try.prog 16 #[.int .i64 h] w fun e w' => e = .returned (tot (boxT h)) ∧ Below w.heap.size w w' := by
  unfold tot boxT
  go_enter Try.func16, Try.ntmps16
  go_wp2
  exact bodyPost_ret (v := .agg #[.int .i64 h, .int .i64 0, .int .i64 0, .int .i64 0, .int .i64 0, .int .i64 0]) (by simp [results, Try.results16, go_sem]) rfl ⟨rfl, tbel1 w _⟩
theorem rbox_any (h : Int) (w : World) : Calls Try.prog 17 #[.int .i64 h] w fun e w' => e = .returned (tot (boxT h)) ∧ Below w.heap.size w w' := by
  unfold tot boxT
  go_enter Try.func17, Try.ntmps17
  go_wp2
  exact bodyPost_ret (v := .agg #[.int .i64 h, .int .i64 0, .int .i64 0, .int .i64 0, .int .i64 0, .int .i64 0]) (by simp [results, Try.results17, go_sem]) rfl ⟨rfl, tbel1 w _⟩
theorem glue_no (h s o r : Int) (w : World) (ho : o < 0 ∨ 4 ≤ o) : Calls Try.prog 14 #[.int .i64 h, .int .i64 s, .int .i64 o, .int .i64 r] w fun e w' => e = .returned (.agg #[.int .i64 h, .int .i64 0, .int .i64 0, .int .i64 0, .int .i64 0, .int .i64 r]) ∧ Below w.heap.size w w' := by
  by_cases h0 : o < 0
  all_goals
    go_enter Try.func14, Try.ntmps14
    go_wp2
    exact bodyPost_ret (v := .agg #[.int .i64 h, .int .i64 0, .int .i64 0, .int .i64 0, .int .i64 0, .int .i64 r]) (by simp [results, Try.results14, go_sem]) rfl ⟨rfl, tbel2 w _ _⟩
theorem glue_0 (h s r : Int) (w : World) : Calls Try.prog 14 #[.int .i64 h, .int .i64 s, .int .i64 0, .int .i64 r] w fun e w' => e = .returned (.agg #[.int .i64 h, .int .i64 s, .int .i64 0, .int .i64 0, .int .i64 0, .int .i64 r]) ∧ Below w.heap.size w w' := by
  go_enter Try.func14, Try.ntmps14
  go_wp2
  exact bodyPost_ret (v := .agg #[.int .i64 h, .int .i64 s, .int .i64 0, .int .i64 0, .int .i64 0, .int .i64 r]) (by simp [results, Try.results14, go_sem]) rfl ⟨rfl, tbel2 w _ _⟩
theorem glue_1 (h s r : Int) (w : World) : Calls Try.prog 14 #[.int .i64 h, .int .i64 s, .int .i64 1, .int .i64 r] w fun e w' => e = .returned (.agg #[.int .i64 h, .int .i64 0, .int .i64 s, .int .i64 0, .int .i64 0, .int .i64 r]) ∧ Below w.heap.size w w' := by
  go_enter Try.func14, Try.ntmps14
  go_wp2
  exact bodyPost_ret (v := .agg #[.int .i64 h, .int .i64 0, .int .i64 s, .int .i64 0, .int .i64 0, .int .i64 r]) (by simp [results, Try.results14, go_sem]) rfl ⟨rfl, tbel2 w _ _⟩
theorem glue_2 (h s r : Int) (w : World) : Calls Try.prog 14 #[.int .i64 h, .int .i64 s, .int .i64 2, .int .i64 r] w fun e w' => e = .returned (.agg #[.int .i64 h, .int .i64 0, .int .i64 0, .int .i64 s, .int .i64 0, .int .i64 r]) ∧ Below w.heap.size w w' := by
  go_enter Try.func14, Try.ntmps14
  go_wp2
  exact bodyPost_ret (v := .agg #[.int .i64 h, .int .i64 0, .int .i64 0, .int .i64 s, .int .i64 0, .int .i64 r]) (by simp [results, Try.results14, go_sem]) rfl ⟨rfl, tbel2 w _ _⟩
theorem glue_3 (h s r : Int) (w : World) : Calls Try.prog 14 #[.int .i64 h, .int .i64 s, .int .i64 3, .int .i64 r] w fun e w' => e = .returned (.agg #[.int .i64 h, .int .i64 0, .int .i64 0, .int .i64 0, .int .i64 s, .int .i64 r]) ∧ Below w.heap.size w w' := by
  go_enter Try.func14, Try.ntmps14
  go_wp2
  exact bodyPost_ret (v := .agg #[.int .i64 h, .int .i64 0, .int .i64 0, .int .i64 0, .int .i64 s, .int .i64 r]) (by simp [results, Try.results14, go_sem]) rfl ⟨rfl, tbel2 w _ _⟩
theorem glue_any (h s o r : Int) (w : World) : Calls Try.prog 14 #[.int .i64 h, .int .i64 s, .int .i64 o, .int .i64 r] w fun e w' => e = .returned (tot (glueT h s o r)) ∧ Below w.heap.size w w' := by
  by_cases h0 : o < 0 ∨ 4 ≤ o
  · have e : glueT h s o r = ⟨h, 0, 0, 0, 0, r⟩ := by unfold glueT; rw [if_neg (by omega), if_neg (by omega), if_neg (by omega), if_neg (by omega)]
    rw [e]
    exact glue_no h s o r w h0
  · rcases (show o = 0 ∨ o = 1 ∨ o = 2 ∨ o = 3 by omega) with rfl | rfl | rfl | rfl
    · exact glue_0 h s r w
    · exact glue_1 h s r w
    · exact glue_2 h s r w
    · exact glue_3 h s r w
theorem rglue_no (h s o r : Int) (w : World) (ho : o < 0 ∨ 4 ≤ o) : Calls Try.prog 15 #[.int .i64 h, .int .i64 s, .int .i64 o, .int .i64 r] w fun e w' => e = .returned (.agg #[.int .i64 h, .int .i64 0, .int .i64 0, .int .i64 0, .int .i64 0, .int .i64 r]) ∧ Below w.heap.size w w' := by
  by_cases h0 : o < 0
  all_goals
    go_enter Try.func15, Try.ntmps15
    go_wp2
    exact bodyPost_ret (v := .agg #[.int .i64 h, .int .i64 0, .int .i64 0, .int .i64 0, .int .i64 0, .int .i64 r]) (by simp [results, Try.results15, go_sem]) rfl ⟨rfl, tbel2 w _ _⟩
theorem rglue_0 (h s r : Int) (w : World) : Calls Try.prog 15 #[.int .i64 h, .int .i64 s, .int .i64 0, .int .i64 r] w fun e w' => e = .returned (.agg #[.int .i64 h, .int .i64 s, .int .i64 0, .int .i64 0, .int .i64 0, .int .i64 r]) ∧ Below w.heap.size w w' := by
  go_enter Try.func15, Try.ntmps15
  go_wp2
  exact bodyPost_ret (v := .agg #[.int .i64 h, .int .i64 s, .int .i64 0, .int .i64 0, .int .i64 0, .int .i64 r]) (by simp [results, Try.results15, go_sem]) rfl ⟨rfl, tbel2 w _ _⟩
theorem rglue_1 (h s r : Int) (w : World) : Calls Try.prog 15 #[.int .i64 h, .int .i64 s, .int .i64 1, .int .i64 r] w fun e w' => e = .returned (.agg #[.int .i64 h, .int .i64 0, .int .i64 s, .int .i64 0, .int .i64 0, .int .i64 r]) ∧ Below w.heap.size w w' := by
  go_enter Try.func15, Try.ntmps15
  go_wp2
  exact bodyPost_ret (v := .agg #[.int .i64 h, .int .i64 0, .int .i64 s, .int .i64 0, .int .i64 0, .int .i64 r]) (by simp [results, Try.results15, go_sem]) rfl ⟨rfl, tbel2 w _ _⟩
theorem rglue_2 (h s r : Int) (w : World) : Calls Try.prog 15 #[.int .i64 h, .int .i64 s, .int .i64 2, .int .i64 r] w fun e w' => e = .returned (.agg #[.int .i64 h, .int .i64 0, .int .i64 0, .int .i64 s, .int .i64 0, .int .i64 r]) ∧ Below w.heap.size w w' := by
  go_enter Try.func15, Try.ntmps15
  go_wp2
  exact bodyPost_ret (v := .agg #[.int .i64 h, .int .i64 0, .int .i64 0, .int .i64 s, .int .i64 0, .int .i64 r]) (by simp [results, Try.results15, go_sem]) rfl ⟨rfl, tbel2 w _ _⟩
theorem rglue_3 (h s r : Int) (w : World) : Calls Try.prog 15 #[.int .i64 h, .int .i64 s, .int .i64 3, .int .i64 r] w fun e w' => e = .returned (.agg #[.int .i64 h, .int .i64 0, .int .i64 0, .int .i64 0, .int .i64 s, .int .i64 r]) ∧ Below w.heap.size w w' := by
  go_enter Try.func15, Try.ntmps15
  go_wp2
  exact bodyPost_ret (v := .agg #[.int .i64 h, .int .i64 0, .int .i64 0, .int .i64 0, .int .i64 s, .int .i64 r]) (by simp [results, Try.results15, go_sem]) rfl ⟨rfl, tbel2 w _ _⟩
theorem rglue_any (h s o r : Int) (w : World) : Calls Try.prog 15 #[.int .i64 h, .int .i64 s, .int .i64 o, .int .i64 r] w fun e w' => e = .returned (tot (glueT h s o r)) ∧ Below w.heap.size w w' := by
  by_cases h0 : o < 0 ∨ 4 ≤ o
  · have e : glueT h s o r = ⟨h, 0, 0, 0, 0, r⟩ := by unfold glueT; rw [if_neg (by omega), if_neg (by omega), if_neg (by omega), if_neg (by omega)]
    rw [e]
    exact rglue_no h s o r w h0
  · rcases (show o = 0 ∨ o = 1 ∨ o = 2 ∨ o = 3 by omega) with rfl | rfl | rfl | rfl
    · exact rglue_0 h s r w
    · exact rglue_1 h s r w
    · exact rglue_2 h s r w
    · exact rglue_3 h s r w
theorem least_walk (n s0 s1 s2 s3 h z : Int) (o : Bool) (w : World) (c : ∀ w, Calls Try.prog 24 #[.int .i64 n, .int .i64 h] w fun e w' => e = .returned (.tuple #[.int .i64 z, .bool o]) ∧ w = w') : Calls Try.prog 8 #[.agg #[.int .i64 n, .int .i64 s0, .int .i64 s1, .int .i64 s2, .int .i64 s3, .int .i64 h]] w fun e w' => e = .returned (.tuple #[.int .i64 z, .bool o]) ∧ Below w.heap.size w w' := by
  go_enter Try.func8, Try.ntmps8
  go_wp2_with fail
  refine (c _).mono ?_
  rintro e w1 ⟨rfl, rfl⟩
  go_wp2
  go_ret2
  exact ⟨rfl, tbel1 w _⟩
theorem least_any (t : T6) (w : World) (ht : inT t) : Calls Try.prog 8 #[tot t] w fun e w' => e = .returned (two (subR t.n t.h)) ∧ Below w.heap.size w w' :=
  least_walk _ _ _ _ _ _ _ _ w fun w => sub_any t.n t.h w ht.1 ht.2.2.2.2.2
theorem order_3 (n s0 s1 s2 s3 h : Int) (w : World) (h3 : (s3 != 0) = true) : Calls Try.prog 12 #[.agg #[.int .i64 n, .int .i64 s0, .int .i64 s1, .int .i64 s2, .int .i64 s3, .int .i64 h]] w fun e w' => e = .returned (.int .i64 3) ∧ Below w.heap.size w w' := by
  go_enter Try.func12, Try.ntmps12
  go_wp2
  refine wp_loop_rounds 4 ?_
  rw [rounds_succ]
  go_wp2
  go_ret
  exact ⟨rfl, tbel1 w _⟩
theorem order_2 (n s0 s1 s2 s3 h : Int) (w : World) (h3 : (s3 != 0) = false) (h2 : (s2 != 0) = true) : Calls Try.prog 12 #[.agg #[.int .i64 n, .int .i64 s0, .int .i64 s1, .int .i64 s2, .int .i64 s3, .int .i64 h]] w fun e w' => e = .returned (.int .i64 2) ∧ Below w.heap.size w w' := by
  go_enter Try.func12, Try.ntmps12
  go_wp2
  refine wp_loop_rounds 4 ?_
  rw [rounds_succ]
  go_wp2
  rw [rounds_succ]
  go_wp2
  go_ret
  exact ⟨rfl, tbel1 w _⟩
theorem order_1 (n s0 s1 s2 s3 h : Int) (w : World) (h3 : (s3 != 0) = false) (h2 : (s2 != 0) = false) (h1 : (s1 != 0) = true) : Calls Try.prog 12 #[.agg #[.int .i64 n, .int .i64 s0, .int .i64 s1, .int .i64 s2, .int .i64 s3, .int .i64 h]] w fun e w' => e = .returned (.int .i64 1) ∧ Below w.heap.size w w' := by
  go_enter Try.func12, Try.ntmps12
  go_wp2
  refine wp_loop_rounds 4 ?_
  rw [rounds_succ]
  go_wp2
  rw [rounds_succ]
  go_wp2
  rw [rounds_succ]
  go_wp2
  go_ret
  exact ⟨rfl, tbel1 w _⟩
theorem order_0 (n s0 s1 s2 s3 h : Int) (w : World) (h3 : (s3 != 0) = false) (h2 : (s2 != 0) = false) (h1 : (s1 != 0) = false) : Calls Try.prog 12 #[.agg #[.int .i64 n, .int .i64 s0, .int .i64 s1, .int .i64 s2, .int .i64 s3, .int .i64 h]] w fun e w' => e = .returned (.int .i64 0) ∧ Below w.heap.size w w' := by
  go_enter Try.func12, Try.ntmps12
  go_wp2
  refine wp_loop_rounds 4 ?_
  rw [rounds_succ]
  go_wp2
  rw [rounds_succ]
  go_wp2
  rw [rounds_succ]
  go_wp2
  rw [rounds_succ]
  go_wp2
  go_ret
  exact ⟨rfl, tbel1 w _⟩
theorem order_any (t : T6) (w : World) : Calls Try.prog 12 #[tot t] w fun e w' => e = .returned (.int .i64 (ordT t)) ∧ Below w.heap.size w w' := by
  unfold ordT
  by_cases h3 : t.s3 = 0
  · rw [if_neg (by simpa using h3)]
    by_cases h2 : t.s2 = 0
    · rw [if_neg (by simpa using h2)]
      by_cases h1 : t.s1 = 0
      · rw [if_neg (by simpa using h1)]
        exact order_0 _ _ _ _ _ _ w (by simpa using h3) (by simpa using h2) (by simpa using h1)
      · rw [if_pos h1]
        exact order_1 _ _ _ _ _ _ w (by simpa using h3) (by simpa using h2) (by simpa using h1)
    · rw [if_pos h2]
      exact order_2 _ _ _ _ _ _ w (by simpa using h3) (by simpa using h2)
  · rw [if_pos h3]
    exact order_3 _ _ _ _ _ _ w (by simpa using h3)
theorem rorder_walk (n s0 s1 s2 s3 h : Int) (b0 b1 b2 b3 : Bool) (w : World) (h0 : (s0 != 0) = b0) (h1 : (s1 != 0) = b1) (h2 : (s2 != 0) = b2) (h3 : (s3 != 0) = b3) : Calls Try.prog 13 #[.agg #[.int .i64 n, .int .i64 s0, .int .i64 s1, .int .i64 s2, .int .i64 s3, .int .i64 h]] w fun e w' => e = .returned (.int .i64 (bif b3 then 3 else bif b2 then 2 else bif b1 then 1 else 0)) ∧ Below w.heap.size w w' := by
  go_enter Try.func13, Try.ntmps13
  go_wp2
  refine wp_loop_rounds 5 ?_
  cases b0
  all_goals
    rw [rounds_succ]
    go_wp2
    cases b1
  all_goals
    rw [rounds_succ]
    go_wp2
    cases b2
  all_goals
    rw [rounds_succ]
    go_wp2
    cases b3
  all_goals
    rw [rounds_succ]
    go_wp2
    rw [rounds_succ]
    go_wp2
    go_ret
    exact ⟨rfl, tbel1 w _⟩
theorem rorder_any (t : T6) (w : World) : Calls Try.prog 13 #[tot t] w fun e w' => e = .returned (.int .i64 (ordT t)) ∧ Below w.heap.size w w' := by
  refine (rorder_walk t.n t.s0 t.s1 t.s2 t.s3 t.h _ _ _ _ w rfl rfl rfl rfl).mono ?_
  rintro e w' ⟨rfl, hw⟩
  refine ⟨?_, hw⟩
  unfold ordT
  simp only [Bool.cond_eq_ite, bne_iff_ne]
end Go.Proofs.Ytaeglilffbdlkaa
