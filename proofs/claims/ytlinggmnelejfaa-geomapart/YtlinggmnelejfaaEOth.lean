/- The small functions of package geom and of the document. -/
import Derived.Test.YtlinggmnelejfaaERck
namespace Go.Proofs.Ytlinggmnelejfaa
open Go.RowKit
set_option maxRecDepth 20000
set_option linter.unusedVariables false
set_option linter.unusedSimpArgs false

theorem errE_yes {g : G19} (h : rightE g = true) : errE g = 0 := by
  have := errE_right g
  rw [h] at this
  simpa using this
theorem errE_no {g : G19} (h : rightE g = false) : (errE g != 0) = true := by
  have := errE_right g
  rw [h] at this
  simp [bne, this]
theorem rightE_cols {g : G19} (h : rightE g = true) : 1 ≤ g.cols ∧ g.cols ≤ 8 := ((rightE_iff g).1 h).1
theorem rightE_wide {g : G19} (h : rightE g = true) : (1 ≤ g.wide ∧ g.wide ≤ 1073741823) ∧ (0 ≤ g.gap ∧ g.gap ≤ 1073741823) := by
  have := ((rightE_iff g).1 h).2
  unfold restE at this
  omega

set_option maxHeartbeats 1000000 in
theorem gcol_any (g : G19) (n : Int) (w : World) : Calls Try.prog 9 #[.agg (geoC g), .int .i64 n] w fun e' w' => e' = .returned (.int .i64 (colE g n)) ∧ Below w.heap.size w w' := by
  unfold colE
  have D := geo_new w g
  have b0 := tbel1 w (.cells (geoC g) 24)
  cases hr : rightE g
  · have c := fun w => gvalid_any g w
    rw [hr] at c
    replace c := Lib.hid c
    clear hr
    rw [cond_false]
    go_enter Try.func9, Try.ntmps9
    go_upto_region 1 with (fail)
    generalize w.alloc _ = U at *
    (refine wp_region_plain (Old U) 2 (Below.refl _ U) ?_; simp only [List.take_succ_cons, List.take_zero, List.drop_succ_cons, List.drop_zero])
    (refine Text.val (fun x hx => load_geo (.tmp 2) rfl rfl (D.old hx)) (by kernel_rfl) ?_; simp only [Act.put, List.getElem_toArray, List.getElem_cons_succ, List.getElem_cons_zero, List.setIfInBounds_toArray, List.set_cons_zero, List.set_cons_succ])
    (refine Text.call (Old.call fun x hx => c.out x) (by kernel_rfl) (fun _ => by kernel_rfl) ?_; simp only [Act.put, List.getElem_toArray, List.getElem_cons_succ, List.getElem_cons_zero, List.setIfInBounds_toArray, List.set_cons_zero, List.set_cons_succ])
    intro x hx
    go_wp2
    go_ret
    exact ⟨rfl, tstep b0 hx b0.size⟩
  · obtain ⟨k1, k2⟩ := rightE_cols hr
    obtain ⟨⟨k3, k4⟩, ⟨k5, k6⟩⟩ := rightE_wide hr
    have c := fun w => gvalid_any g w
    rw [hr] at c
    replace c := Lib.hid c
    clear hr
    have ways : n < 0 ∨ (0 ≤ n ∧ n ≤ g.cols) ∨ g.cols < n := by omega
    rw [cond_true]
    obtain ⟨m, hm⟩ : ∃ m, min (max n 0) g.cols = m := ⟨_, rfl⟩
    rw [hm]
    rcases ways with h | ⟨h, h'⟩ | h
    · obtain rfl : m = 0 := by omega
      clear hm
      go_enter Try.func9, Try.ntmps9
      go_upto_region 1 with (fail)
      generalize w.alloc _ = U at *
      (refine wp_region_plain (Old U) 2 (Below.refl _ U) ?_; simp only [List.take_succ_cons, List.take_zero, List.drop_succ_cons, List.drop_zero])
      (refine Text.val (fun x hx => load_geo (.tmp 2) rfl rfl (D.old hx)) (by kernel_rfl) ?_; simp only [Act.put, List.getElem_toArray, List.getElem_cons_succ, List.getElem_cons_zero, List.setIfInBounds_toArray, List.set_cons_zero, List.set_cons_succ])
      (refine Text.call (Old.call fun x hx => c.out x) (by kernel_rfl) (fun _ => by kernel_rfl) ?_; simp only [Act.put, List.getElem_toArray, List.getElem_cons_succ, List.getElem_cons_zero, List.setIfInBounds_toArray, List.set_cons_zero, List.set_cons_succ])
      intro x hx
      have D1 := D.old hx
      obtain ⟨q0, q1, q2, q3, q4, q5, q6, q7, q8, q9, q10, q11, q12, q13, q14, q15, q16, q17, q18⟩ := D1.cells
      have bz := tstep b0 hx b0.size
      go_wp2
      go_ret
      exact ⟨rfl, bz⟩
    · obtain rfl : m = n := by omega
      clear hm
      go_enter Try.func9, Try.ntmps9
      go_upto_region 1 with (fail)
      generalize w.alloc _ = U at *
      (refine wp_region_plain (Old U) 2 (Below.refl _ U) ?_; simp only [List.take_succ_cons, List.take_zero, List.drop_succ_cons, List.drop_zero])
      (refine Text.val (fun x hx => load_geo (.tmp 2) rfl rfl (D.old hx)) (by kernel_rfl) ?_; simp only [Act.put, List.getElem_toArray, List.getElem_cons_succ, List.getElem_cons_zero, List.setIfInBounds_toArray, List.set_cons_zero, List.set_cons_succ])
      (refine Text.call (Old.call fun x hx => c.out x) (by kernel_rfl) (fun _ => by kernel_rfl) ?_; simp only [Act.put, List.getElem_toArray, List.getElem_cons_succ, List.getElem_cons_zero, List.setIfInBounds_toArray, List.set_cons_zero, List.set_cons_succ])
      intro x hx
      have D1 := D.old hx
      obtain ⟨q0, q1, q2, q3, q4, q5, q6, q7, q8, q9, q10, q11, q12, q13, q14, q15, q16, q17, q18⟩ := D1.cells
      have bz := tstep b0 hx b0.size
      go_wp2
      go_ret
      exact ⟨rfl, bz⟩
    · obtain rfl : m = g.cols := by omega
      clear hm
      go_enter Try.func9, Try.ntmps9
      go_upto_region 1 with (fail)
      generalize w.alloc _ = U at *
      (refine wp_region_plain (Old U) 2 (Below.refl _ U) ?_; simp only [List.take_succ_cons, List.take_zero, List.drop_succ_cons, List.drop_zero])
      (refine Text.val (fun x hx => load_geo (.tmp 2) rfl rfl (D.old hx)) (by kernel_rfl) ?_; simp only [Act.put, List.getElem_toArray, List.getElem_cons_succ, List.getElem_cons_zero, List.setIfInBounds_toArray, List.set_cons_zero, List.set_cons_succ])
      (refine Text.call (Old.call fun x hx => c.out x) (by kernel_rfl) (fun _ => by kernel_rfl) ?_; simp only [Act.put, List.getElem_toArray, List.getElem_cons_succ, List.getElem_cons_zero, List.setIfInBounds_toArray, List.set_cons_zero, List.set_cons_succ])
      intro x hx
      have D1 := D.old hx
      obtain ⟨q0, q1, q2, q3, q4, q5, q6, q7, q8, q9, q10, q11, q12, q13, q14, q15, q16, q17, q18⟩ := D1.cells
      have bz := tstep b0 hx b0.size
      go_wp2
      go_ret
      exact ⟨rfl, bz⟩
set_option maxHeartbeats 1000000 in
theorem rgcol_any (g : G19) (n : Int) (w : World) : Calls Try.prog 10 #[.agg (geoC g), .int .i64 n] w fun e' w' => e' = .returned (.int .i64 (colE g n)) ∧ Below w.heap.size w w' := by
  unfold colE
  have D := geo_new w g
  have b0 := tbel1 w (.cells (geoC g) 24)
  cases hr : rightE g
  · have c := Lib.hid fun w => rgcheck_any g w
    have he := errE_no hr
    generalize errE g = e at *
    clear hr
    rw [cond_false]
    go_enter Try.func10, Try.ntmps10
    go_upto_region 1 with (fail)
    generalize w.alloc _ = U at *
    (refine wp_region_plain (Old U) 2 (Below.refl _ U) ?_; simp only [List.take_succ_cons, List.take_zero, List.drop_succ_cons, List.drop_zero])
    (refine Text.val (fun x hx => load_geo (.tmp 2) rfl rfl (D.old hx)) (by kernel_rfl) ?_; simp only [Act.put, List.getElem_toArray, List.getElem_cons_succ, List.getElem_cons_zero, List.setIfInBounds_toArray, List.set_cons_zero, List.set_cons_succ])
    (refine Text.call (Old.call fun x hx => c.out x) (by kernel_rfl) (fun _ => by kernel_rfl) ?_; simp only [Act.put, List.getElem_toArray, List.getElem_cons_succ, List.getElem_cons_zero, List.setIfInBounds_toArray, List.set_cons_zero, List.set_cons_succ])
    intro x hx
    go_wp2
    go_ret
    exact ⟨rfl, tstep b0 hx b0.size⟩
  · obtain ⟨k1, k2⟩ := rightE_cols hr
    obtain ⟨⟨k3, k4⟩, ⟨k5, k6⟩⟩ := rightE_wide hr
    have c := fun w => rgcheck_any g w
    rw [errE_yes hr] at c
    replace c := Lib.hid c
    clear hr
    have ways : n < 0 ∨ (0 ≤ n ∧ n ≤ g.cols) ∨ g.cols < n := by omega
    rw [cond_true]
    obtain ⟨m, hm⟩ : ∃ m, min (max n 0) g.cols = m := ⟨_, rfl⟩
    rw [hm]
    rcases ways with h | ⟨h, h'⟩ | h
    · obtain rfl : m = 0 := by omega
      clear hm
      go_enter Try.func10, Try.ntmps10
      go_upto_region 1 with (fail)
      generalize w.alloc _ = U at *
      (refine wp_region_plain (Old U) 2 (Below.refl _ U) ?_; simp only [List.take_succ_cons, List.take_zero, List.drop_succ_cons, List.drop_zero])
      (refine Text.val (fun x hx => load_geo (.tmp 2) rfl rfl (D.old hx)) (by kernel_rfl) ?_; simp only [Act.put, List.getElem_toArray, List.getElem_cons_succ, List.getElem_cons_zero, List.setIfInBounds_toArray, List.set_cons_zero, List.set_cons_succ])
      (refine Text.call (Old.call fun x hx => c.out x) (by kernel_rfl) (fun _ => by kernel_rfl) ?_; simp only [Act.put, List.getElem_toArray, List.getElem_cons_succ, List.getElem_cons_zero, List.setIfInBounds_toArray, List.set_cons_zero, List.set_cons_succ])
      intro x hx
      have D1 := D.old hx
      obtain ⟨q0, q1, q2, q3, q4, q5, q6, q7, q8, q9, q10, q11, q12, q13, q14, q15, q16, q17, q18⟩ := D1.cells
      have bz := tstep b0 hx b0.size
      go_wp2
      go_ret
      exact ⟨rfl, bz⟩
    · obtain rfl : m = n := by omega
      clear hm
      go_enter Try.func10, Try.ntmps10
      go_upto_region 1 with (fail)
      generalize w.alloc _ = U at *
      (refine wp_region_plain (Old U) 2 (Below.refl _ U) ?_; simp only [List.take_succ_cons, List.take_zero, List.drop_succ_cons, List.drop_zero])
      (refine Text.val (fun x hx => load_geo (.tmp 2) rfl rfl (D.old hx)) (by kernel_rfl) ?_; simp only [Act.put, List.getElem_toArray, List.getElem_cons_succ, List.getElem_cons_zero, List.setIfInBounds_toArray, List.set_cons_zero, List.set_cons_succ])
      (refine Text.call (Old.call fun x hx => c.out x) (by kernel_rfl) (fun _ => by kernel_rfl) ?_; simp only [Act.put, List.getElem_toArray, List.getElem_cons_succ, List.getElem_cons_zero, List.setIfInBounds_toArray, List.set_cons_zero, List.set_cons_succ])
      intro x hx
      have D1 := D.old hx
      obtain ⟨q0, q1, q2, q3, q4, q5, q6, q7, q8, q9, q10, q11, q12, q13, q14, q15, q16, q17, q18⟩ := D1.cells
      have bz := tstep b0 hx b0.size
      go_wp2
      go_ret
      exact ⟨rfl, bz⟩
    · obtain rfl : m = g.cols := by omega
      clear hm
      go_enter Try.func10, Try.ntmps10
      go_upto_region 1 with (fail)
      generalize w.alloc _ = U at *
      (refine wp_region_plain (Old U) 2 (Below.refl _ U) ?_; simp only [List.take_succ_cons, List.take_zero, List.drop_succ_cons, List.drop_zero])
      (refine Text.val (fun x hx => load_geo (.tmp 2) rfl rfl (D.old hx)) (by kernel_rfl) ?_; simp only [Act.put, List.getElem_toArray, List.getElem_cons_succ, List.getElem_cons_zero, List.setIfInBounds_toArray, List.set_cons_zero, List.set_cons_succ])
      (refine Text.call (Old.call fun x hx => c.out x) (by kernel_rfl) (fun _ => by kernel_rfl) ?_; simp only [Act.put, List.getElem_toArray, List.getElem_cons_succ, List.getElem_cons_zero, List.setIfInBounds_toArray, List.set_cons_zero, List.set_cons_succ])
      intro x hx
      have D1 := D.old hx
      obtain ⟨q0, q1, q2, q3, q4, q5, q6, q7, q8, q9, q10, q11, q12, q13, q14, q15, q16, q17, q18⟩ := D1.cells
      have bz := tstep b0 hx b0.size
      go_wp2
      go_ret
      exact ⟨rfl, bz⟩
set_option maxHeartbeats 1000000 in
theorem ghigh_any (g : G19) (n : Int) (w : World) : Calls Try.prog 11 #[.agg (geoC g), .int .i64 n] w fun e' w' => e' = .returned (.int .i64 (highE g n)) ∧ Below w.heap.size w w' := by
  unfold highE
  have D := geo_new w g
  have b0 := tbel1 w (.cells (geoC g) 24)
  cases hr : rightE g
  · have c := fun w => gvalid_any g w
    rw [hr] at c
    replace c := Lib.hid c
    clear hr
    rw [cond_false]
    go_enter Try.func11, Try.ntmps11
    go_upto_region 1 with (fail)
    generalize w.alloc _ = U at *
    (refine wp_region_plain (Old U) 2 (Below.refl _ U) ?_; simp only [List.take_succ_cons, List.take_zero, List.drop_succ_cons, List.drop_zero])
    (refine Text.val (fun x hx => load_geo (.tmp 2) rfl rfl (D.old hx)) (by kernel_rfl) ?_; simp only [Act.put, List.getElem_toArray, List.getElem_cons_succ, List.getElem_cons_zero, List.setIfInBounds_toArray, List.set_cons_zero, List.set_cons_succ])
    (refine Text.call (Old.call fun x hx => c.out x) (by kernel_rfl) (fun _ => by kernel_rfl) ?_; simp only [Act.put, List.getElem_toArray, List.getElem_cons_succ, List.getElem_cons_zero, List.setIfInBounds_toArray, List.set_cons_zero, List.set_cons_succ])
    intro x hx
    go_wp2
    go_ret
    exact ⟨rfl, tstep b0 hx b0.size⟩
  · obtain ⟨k1, k2⟩ := rightE_cols hr
    obtain ⟨⟨k3, k4⟩, ⟨k5, k6⟩⟩ := rightE_wide hr
    have c := fun w => gvalid_any g w
    rw [hr] at c
    replace c := Lib.hid c
    clear hr
    rw [cond_true]
    by_cases h : n < g.cols
    · rw [if_pos h]
      go_enter Try.func11, Try.ntmps11
      go_upto_region 1 with (fail)
      generalize w.alloc _ = U at *
      (refine wp_region_plain (Old U) 2 (Below.refl _ U) ?_; simp only [List.take_succ_cons, List.take_zero, List.drop_succ_cons, List.drop_zero])
      (refine Text.val (fun x hx => load_geo (.tmp 2) rfl rfl (D.old hx)) (by kernel_rfl) ?_; simp only [Act.put, List.getElem_toArray, List.getElem_cons_succ, List.getElem_cons_zero, List.setIfInBounds_toArray, List.set_cons_zero, List.set_cons_succ])
      (refine Text.call (Old.call fun x hx => c.out x) (by kernel_rfl) (fun _ => by kernel_rfl) ?_; simp only [Act.put, List.getElem_toArray, List.getElem_cons_succ, List.getElem_cons_zero, List.setIfInBounds_toArray, List.set_cons_zero, List.set_cons_succ])
      intro x hx
      have D1 := D.old hx
      obtain ⟨q0, q1, q2, q3, q4, q5, q6, q7, q8, q9, q10, q11, q12, q13, q14, q15, q16, q17, q18⟩ := D1.cells
      have bz := tstep b0 hx b0.size
      go_wp2
      go_ret
      exact ⟨rfl, bz⟩
    · rw [if_neg h]
      go_enter Try.func11, Try.ntmps11
      go_upto_region 1 with (fail)
      generalize w.alloc _ = U at *
      (refine wp_region_plain (Old U) 2 (Below.refl _ U) ?_; simp only [List.take_succ_cons, List.take_zero, List.drop_succ_cons, List.drop_zero])
      (refine Text.val (fun x hx => load_geo (.tmp 2) rfl rfl (D.old hx)) (by kernel_rfl) ?_; simp only [Act.put, List.getElem_toArray, List.getElem_cons_succ, List.getElem_cons_zero, List.setIfInBounds_toArray, List.set_cons_zero, List.set_cons_succ])
      (refine Text.call (Old.call fun x hx => c.out x) (by kernel_rfl) (fun _ => by kernel_rfl) ?_; simp only [Act.put, List.getElem_toArray, List.getElem_cons_succ, List.getElem_cons_zero, List.setIfInBounds_toArray, List.set_cons_zero, List.set_cons_succ])
      intro x hx
      have D1 := D.old hx
      obtain ⟨q0, q1, q2, q3, q4, q5, q6, q7, q8, q9, q10, q11, q12, q13, q14, q15, q16, q17, q18⟩ := D1.cells
      have bz := tstep b0 hx b0.size
      go_wp2
      go_ret
      exact ⟨rfl, bz⟩
set_option maxHeartbeats 1000000 in
theorem rghigh_any (g : G19) (n : Int) (w : World) : Calls Try.prog 12 #[.agg (geoC g), .int .i64 n] w fun e' w' => e' = .returned (.int .i64 (highE g n)) ∧ Below w.heap.size w w' := by
  unfold highE
  have D := geo_new w g
  have b0 := tbel1 w (.cells (geoC g) 24)
  cases hr : rightE g
  · have c := Lib.hid fun w => rgcheck_any g w
    have he := errE_no hr
    generalize errE g = e at *
    clear hr
    rw [cond_false]
    go_enter Try.func12, Try.ntmps12
    go_upto_region 1 with (fail)
    generalize w.alloc _ = U at *
    (refine wp_region_plain (Old U) 2 (Below.refl _ U) ?_; simp only [List.take_succ_cons, List.take_zero, List.drop_succ_cons, List.drop_zero])
    (refine Text.val (fun x hx => load_geo (.tmp 2) rfl rfl (D.old hx)) (by kernel_rfl) ?_; simp only [Act.put, List.getElem_toArray, List.getElem_cons_succ, List.getElem_cons_zero, List.setIfInBounds_toArray, List.set_cons_zero, List.set_cons_succ])
    (refine Text.call (Old.call fun x hx => c.out x) (by kernel_rfl) (fun _ => by kernel_rfl) ?_; simp only [Act.put, List.getElem_toArray, List.getElem_cons_succ, List.getElem_cons_zero, List.setIfInBounds_toArray, List.set_cons_zero, List.set_cons_succ])
    intro x hx
    go_wp2
    go_ret
    exact ⟨rfl, tstep b0 hx b0.size⟩
  · obtain ⟨k1, k2⟩ := rightE_cols hr
    obtain ⟨⟨k3, k4⟩, ⟨k5, k6⟩⟩ := rightE_wide hr
    have c := fun w => rgcheck_any g w
    rw [errE_yes hr] at c
    replace c := Lib.hid c
    clear hr
    rw [cond_true]
    by_cases h : n < g.cols
    · rw [if_pos h]
      go_enter Try.func12, Try.ntmps12
      go_upto_region 1 with (fail)
      generalize w.alloc _ = U at *
      (refine wp_region_plain (Old U) 2 (Below.refl _ U) ?_; simp only [List.take_succ_cons, List.take_zero, List.drop_succ_cons, List.drop_zero])
      (refine Text.val (fun x hx => load_geo (.tmp 2) rfl rfl (D.old hx)) (by kernel_rfl) ?_; simp only [Act.put, List.getElem_toArray, List.getElem_cons_succ, List.getElem_cons_zero, List.setIfInBounds_toArray, List.set_cons_zero, List.set_cons_succ])
      (refine Text.call (Old.call fun x hx => c.out x) (by kernel_rfl) (fun _ => by kernel_rfl) ?_; simp only [Act.put, List.getElem_toArray, List.getElem_cons_succ, List.getElem_cons_zero, List.setIfInBounds_toArray, List.set_cons_zero, List.set_cons_succ])
      intro x hx
      have D1 := D.old hx
      obtain ⟨q0, q1, q2, q3, q4, q5, q6, q7, q8, q9, q10, q11, q12, q13, q14, q15, q16, q17, q18⟩ := D1.cells
      have bz := tstep b0 hx b0.size
      go_wp2
      go_ret
      exact ⟨rfl, bz⟩
    · rw [if_neg h]
      go_enter Try.func12, Try.ntmps12
      go_upto_region 1 with (fail)
      generalize w.alloc _ = U at *
      (refine wp_region_plain (Old U) 2 (Below.refl _ U) ?_; simp only [List.take_succ_cons, List.take_zero, List.drop_succ_cons, List.drop_zero])
      (refine Text.val (fun x hx => load_geo (.tmp 2) rfl rfl (D.old hx)) (by kernel_rfl) ?_; simp only [Act.put, List.getElem_toArray, List.getElem_cons_succ, List.getElem_cons_zero, List.setIfInBounds_toArray, List.set_cons_zero, List.set_cons_succ])
      (refine Text.call (Old.call fun x hx => c.out x) (by kernel_rfl) (fun _ => by kernel_rfl) ?_; simp only [Act.put, List.getElem_toArray, List.getElem_cons_succ, List.getElem_cons_zero, List.setIfInBounds_toArray, List.set_cons_zero, List.set_cons_succ])
      intro x hx
      have D1 := D.old hx
      obtain ⟨q0, q1, q2, q3, q4, q5, q6, q7, q8, q9, q10, q11, q12, q13, q14, q15, q16, q17, q18⟩ := D1.cells
      have bz := tstep b0 hx b0.size
      go_wp2
      go_ret
      exact ⟨rfl, bz⟩
end Go.Proofs.Ytlinggmnelejfaa
