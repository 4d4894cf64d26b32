/- What applying the rules of a ratio answers. -/
import Derived.Test.YtojphpncidjdiaaBRule
namespace Go.Proofs.Ytojphpncidjdiaa
open Go.RowKit
set_option maxRecDepth 20000
set_option linter.unusedVariables false

theorem hold0 (n h : Int) (w : World) : Calls Try.prog 63 #[.agg #[.int .i64 n, .int .i64 h]] w fun e w' => e = .returned (.bool (decide (n < 1))) ∧ Below w.heap.size w w' := by
  go_enter Try.func63, Try.ntmps63
  go_wp2
  go_ret
  exact ⟨rfl, b_bel1 _ _⟩
theorem hold1 (n h : Int) (w : World) : Calls Try.prog 65 #[.agg #[.int .i64 n, .int .i64 h]] w fun e w' => e = .returned (.bool (decide (h < 1))) ∧ Below w.heap.size w w' := by
  go_enter Try.func65, Try.ntmps65
  go_wp2
  go_ret
  exact ⟨rfl, b_bel1 _ _⟩
theorem hold2 (n h : Int) (w : World) : Calls Try.prog 67 #[.agg #[.int .i64 n, .int .i64 h]] w fun e w' => e = .returned (.bool (decide (n ≤ 7230584))) ∧ Below w.heap.size w w' := by
  go_enter Try.func67, Try.ntmps67
  go_wp2
  go_ret
  exact ⟨rfl, b_bel1 _ _⟩
theorem hold3 (n h : Int) (w : World) : Calls Try.prog 69 #[.agg #[.int .i64 n, .int .i64 h]] w fun e w' => e = .returned (.bool (decide (1663497 ≤ h))) ∧ Below w.heap.size w w' := by
  go_enter Try.func69, Try.ntmps69
  go_wp2
  go_ret
  exact ⟨rfl, b_bel1 _ _⟩
theorem value0 (n h : Int) (w : World) : Calls Try.prog 64 #[.agg #[.int .i64 n, .int .i64 h]] w fun e w' => e = .returned (.int .i64 0) ∧ Below w.heap.size w w' := by
  go_enter Try.func64, Try.ntmps64
  go_wp2
  go_ret
  exact ⟨rfl, b_bel1 _ _⟩
theorem value1 (n h : Int) (w : World) : Calls Try.prog 66 #[.agg #[.int .i64 n, .int .i64 h]] w fun e w' => e = .returned (.int .i64 1291) ∧ Below w.heap.size w w' := by
  go_enter Try.func66, Try.ntmps66
  go_wp2
  go_ret
  exact ⟨rfl, b_bel1 _ _⟩
theorem value2 (n h : Int) (w : World) (hz : 1 ≤ h) : Calls Try.prog 68 #[.agg #[.int .i64 n, .int .i64 h]] w fun e w' => e = .returned (.int .i64 (wrap64 ((wrap64 (297 * n)).tdiv h))) ∧ Below w.heap.size w w' := by
  go_enter Try.func68, Try.ntmps68
  go_wp2
  go_ret
  exact ⟨rfl, b_bel1 _ _⟩
theorem value3 (n h : Int) (w : World) (d : Int) (hd : wrap64 (h.tdiv 297) = d) (hz : 1 ≤ d) : Calls Try.prog 70 #[.agg #[.int .i64 n, .int .i64 h]] w fun e w' => e = .returned (.int .i64 (wrap64 (n.tdiv d))) ∧ Below w.heap.size w w' := by
  go_enter Try.func70, Try.ntmps70
  go_wp2
  go_ret
  exact ⟨rfl, b_bel1 _ _⟩
theorem value4 (n h : Int) (w : World) : Calls Try.prog 71 #[.agg #[.int .i64 n, .int .i64 h]] w fun e w' => e = .returned (.int .i64 n) ∧ Below w.heap.size w w' := by
  go_enter Try.func71, Try.ntmps71
  go_wp2
  go_ret
  exact ⟨rfl, b_bel1 _ _⟩
/-- The rules of a ratio lie in block b, the change in block c. -/
structure Rat (b c : Nat) (n h : Int) (w : World) : Prop where
  lb : b < w.heap.size
  lc : c < w.heap.size
  n0 : w.cell? ⟨c, 0, none⟩ = some (.int .i64 n)
  n1 : w.cell? ⟨c, 1, none⟩ = some (.int .i64 h)
  c0 : w.cell? ⟨b, 0, none⟩ = some (.func (.func 63) #[] #[])
  c1 : w.cell? ⟨b, 1, none⟩ = some (.func (.func 64) #[] #[])
  c2 : w.cell? ⟨b, 2, none⟩ = some (.func (.func 65) #[] #[])
  c3 : w.cell? ⟨b, 3, none⟩ = some (.func (.func 66) #[] #[])
  c4 : w.cell? ⟨b, 4, none⟩ = some (.func (.func 67) #[] #[])
  c5 : w.cell? ⟨b, 5, none⟩ = some (.func (.func 68) #[] #[])
  c6 : w.cell? ⟨b, 6, none⟩ = some (.func (.func 69) #[] #[])
  c7 : w.cell? ⟨b, 7, none⟩ = some (.func (.func 70) #[] #[])
  c9 : w.cell? ⟨b, 9, none⟩ = some (.func (.func 71) #[] #[])
theorem Rat.carry {b c : Nat} {n h : Int} {w w' : World} (r : Rat b c n h w) (s : Below w.heap.size w w') : Rat b c n h w' :=
  ⟨Nat.lt_of_lt_of_le r.lb s.size, Nat.lt_of_lt_of_le r.lc s.size, (s.cell (p := ⟨c, 0, none⟩) r.lc).trans r.n0, (s.cell (p := ⟨c, 1, none⟩) r.lc).trans r.n1,
    (s.cell (p := ⟨b, 0, none⟩) r.lb).trans r.c0,
    (s.cell (p := ⟨b, 1, none⟩) r.lb).trans r.c1,
    (s.cell (p := ⟨b, 2, none⟩) r.lb).trans r.c2,
    (s.cell (p := ⟨b, 3, none⟩) r.lb).trans r.c3,
    (s.cell (p := ⟨b, 4, none⟩) r.lb).trans r.c4,
    (s.cell (p := ⟨b, 5, none⟩) r.lb).trans r.c5,
    (s.cell (p := ⟨b, 6, none⟩) r.lb).trans r.c6,
    (s.cell (p := ⟨b, 7, none⟩) r.lb).trans r.c7,
    (s.cell (p := ⟨b, 9, none⟩) r.lb).trans r.c9⟩
theorem b_bstep {w w0 w1 : World} {o : Obj} (s : Below w.heap.size w w0) (t : Below (w0.alloc o).heap.size (w0.alloc o) w1) : Below w.heap.size w w1 :=
  (s.alloc s.size o).trans (t.mono (by have := s.size; simp; omega))
theorem bstep0 {w0 w1 : World} {o : Obj} (t : Below (w0.alloc o).heap.size (w0.alloc o) w1) : Below w0.heap.size w0 w1 := b_bstep (Below.refl _ _) t
theorem Rat.start {b : Nat} (n h : Int) {w : World} (lb : b < w.heap.size) (c0 : w.cell? ⟨b, 0, none⟩ = some (.func (.func 63) #[] #[])) (c1 : w.cell? ⟨b, 1, none⟩ = some (.func (.func 64) #[] #[])) (c2 : w.cell? ⟨b, 2, none⟩ = some (.func (.func 65) #[] #[])) (c3 : w.cell? ⟨b, 3, none⟩ = some (.func (.func 66) #[] #[])) (c4 : w.cell? ⟨b, 4, none⟩ = some (.func (.func 67) #[] #[])) (c5 : w.cell? ⟨b, 5, none⟩ = some (.func (.func 68) #[] #[])) (c6 : w.cell? ⟨b, 6, none⟩ = some (.func (.func 69) #[] #[])) (c7 : w.cell? ⟨b, 7, none⟩ = some (.func (.func 70) #[] #[])) (c9 : w.cell? ⟨b, 9, none⟩ = some (.func (.func 71) #[] #[])) :
    Rat b w.heap.size n h (w.alloc (.cells #[.int .i64 n, .int .i64 h] 73)) := by
  have s := b_bel1 w (.cells #[.int .i64 n, .int .i64 h] 73)
  refine ⟨by simp; omega, by simp, by simp [go_sem], by simp [go_sem],
    (s.cell (p := ⟨b, 0, none⟩) lb).trans c0,
    (s.cell (p := ⟨b, 1, none⟩) lb).trans c1,
    (s.cell (p := ⟨b, 2, none⟩) lb).trans c2,
    (s.cell (p := ⟨b, 3, none⟩) lb).trans c3,
    (s.cell (p := ⟨b, 4, none⟩) lb).trans c4,
    (s.cell (p := ⟨b, 5, none⟩) lb).trans c5,
    (s.cell (p := ⟨b, 6, none⟩) lb).trans c6,
    (s.cell (p := ⟨b, 7, none⟩) lb).trans c7,
    (s.cell (p := ⟨b, 9, none⟩) lb).trans c9⟩
set_option maxHeartbeats 2000000 in
theorem rapply_0 (b : Nat) (n h : Int) (w : World) (lb : b < w.heap.size) (c0 : w.cell? ⟨b, 0, none⟩ = some (.func (.func 63) #[] #[])) (c1 : w.cell? ⟨b, 1, none⟩ = some (.func (.func 64) #[] #[])) (c2 : w.cell? ⟨b, 2, none⟩ = some (.func (.func 65) #[] #[])) (c3 : w.cell? ⟨b, 3, none⟩ = some (.func (.func 66) #[] #[])) (c4 : w.cell? ⟨b, 4, none⟩ = some (.func (.func 67) #[] #[])) (c5 : w.cell? ⟨b, 5, none⟩ = some (.func (.func 68) #[] #[])) (c6 : w.cell? ⟨b, 6, none⟩ = some (.func (.func 69) #[] #[])) (c7 : w.cell? ⟨b, 7, none⟩ = some (.func (.func 70) #[] #[])) (c9 : w.cell? ⟨b, 9, none⟩ = some (.func (.func 71) #[] #[]))
    (h0 : n < 1) :
    Calls Try.prog 49 #[.slice (some ⟨b, 0, none⟩) 5 5, .agg #[.int .i64 n, .int .i64 h]] w fun e w' => e = .returned (.int .i64 0) ∧ Below w.heap.size w w' := by
  have r0 := Rat.start n h lb c0 c1 c2 c3 c4 c5 c6 c7 c9
  have s0 := b_bel1 w (.cells #[.int .i64 n, .int .i64 h] 73)
  go_enter Try.func49, Try.ntmps49
  go_wp2
  obtain ⟨w0, hw0⟩ : ∃ w0, w0 = w.alloc (.cells #[.int .i64 n, .int .i64 h] 73) := ⟨_, rfl⟩
  rw [← hw0] at r0 s0 ⊢
  clear hw0 c0 c1 c2 c3 c4 c5 c6 c7 c9
  refine wp_loop_rounds 5 ?_
  obtain ⟨lb0, lc0, n00, n10, k00, k10, k20, k30, k40, k50, k60, k70, k90⟩ := id r0
  rw [rounds_succ]
  go_wp2_with (first | (go_at_call 63; refine (hold0 n h _).mono ?_; rintro e w1 ⟨rfl, b1⟩; have s1 := b_bstep s0 b1; have r1 := r0.carry (bstep0 b1); have m0 := r1.n0; have m1 := r1.n1; have l1 := b1.cell (p := ⟨w0.heap.size, 1, none⟩) (by simp)) | (go_at_call 64; refine (value0 n h _).mono ?_; rintro e w9 ⟨rfl, b9⟩))
  go_ret
  exact ⟨rfl, s1.trans (b9.mono s1.size)⟩
set_option maxHeartbeats 2000000 in
theorem rapply_1 (b : Nat) (n h : Int) (w : World) (lb : b < w.heap.size) (c0 : w.cell? ⟨b, 0, none⟩ = some (.func (.func 63) #[] #[])) (c1 : w.cell? ⟨b, 1, none⟩ = some (.func (.func 64) #[] #[])) (c2 : w.cell? ⟨b, 2, none⟩ = some (.func (.func 65) #[] #[])) (c3 : w.cell? ⟨b, 3, none⟩ = some (.func (.func 66) #[] #[])) (c4 : w.cell? ⟨b, 4, none⟩ = some (.func (.func 67) #[] #[])) (c5 : w.cell? ⟨b, 5, none⟩ = some (.func (.func 68) #[] #[])) (c6 : w.cell? ⟨b, 6, none⟩ = some (.func (.func 69) #[] #[])) (c7 : w.cell? ⟨b, 7, none⟩ = some (.func (.func 70) #[] #[])) (c9 : w.cell? ⟨b, 9, none⟩ = some (.func (.func 71) #[] #[]))
    (h0 : 1 ≤ n) (h1 : h < 1) :
    Calls Try.prog 49 #[.slice (some ⟨b, 0, none⟩) 5 5, .agg #[.int .i64 n, .int .i64 h]] w fun e w' => e = .returned (.int .i64 1291) ∧ Below w.heap.size w w' := by
  have r0 := Rat.start n h lb c0 c1 c2 c3 c4 c5 c6 c7 c9
  have s0 := b_bel1 w (.cells #[.int .i64 n, .int .i64 h] 73)
  go_enter Try.func49, Try.ntmps49
  go_wp2
  obtain ⟨w0, hw0⟩ : ∃ w0, w0 = w.alloc (.cells #[.int .i64 n, .int .i64 h] 73) := ⟨_, rfl⟩
  rw [← hw0] at r0 s0 ⊢
  clear hw0 c0 c1 c2 c3 c4 c5 c6 c7 c9
  refine wp_loop_rounds 5 ?_
  obtain ⟨lb0, lc0, n00, n10, k00, k10, k20, k30, k40, k50, k60, k70, k90⟩ := id r0
  rw [rounds_succ]
  go_wp2_with ((go_at_call 63; refine (hold0 n h _).mono ?_; rintro e w1 ⟨rfl, b1⟩; have s1 := b_bstep s0 b1; have r1 := r0.carry (bstep0 b1); have m0 := r1.n0; have m1 := r1.n1; have l1 := b1.cell (p := ⟨w0.heap.size, 1, none⟩) (by simp)))
  obtain ⟨lb1, lc1, n01, n11, k01, k11, k21, k31, k41, k51, k61, k71, k91⟩ := id r1
  rw [rounds_succ]
  go_wp2_with (first | (go_at_call 65; refine (hold1 n h _).mono ?_; rintro e w2 ⟨rfl, b2⟩; have s2 := b_bstep s1 b2; have r2 := r1.carry (bstep0 b2); have m0 := r2.n0; have m1 := r2.n1; have l1 := b2.cell (p := ⟨w1.heap.size, 1, none⟩) (by simp)) | (go_at_call 66; refine (value1 n h _).mono ?_; rintro e w9 ⟨rfl, b9⟩))
  go_ret
  exact ⟨rfl, s2.trans (b9.mono s2.size)⟩
set_option maxHeartbeats 2000000 in
theorem rapply_2 (b : Nat) (n h : Int) (w : World) (lb : b < w.heap.size) (c0 : w.cell? ⟨b, 0, none⟩ = some (.func (.func 63) #[] #[])) (c1 : w.cell? ⟨b, 1, none⟩ = some (.func (.func 64) #[] #[])) (c2 : w.cell? ⟨b, 2, none⟩ = some (.func (.func 65) #[] #[])) (c3 : w.cell? ⟨b, 3, none⟩ = some (.func (.func 66) #[] #[])) (c4 : w.cell? ⟨b, 4, none⟩ = some (.func (.func 67) #[] #[])) (c5 : w.cell? ⟨b, 5, none⟩ = some (.func (.func 68) #[] #[])) (c6 : w.cell? ⟨b, 6, none⟩ = some (.func (.func 69) #[] #[])) (c7 : w.cell? ⟨b, 7, none⟩ = some (.func (.func 70) #[] #[])) (c9 : w.cell? ⟨b, 9, none⟩ = some (.func (.func 71) #[] #[]))
    (h0 : 1 ≤ n) (h1 : 1 ≤ h) (h2 : n ≤ 7230584) :
    Calls Try.prog 49 #[.slice (some ⟨b, 0, none⟩) 5 5, .agg #[.int .i64 n, .int .i64 h]] w fun e w' => e = .returned (.int .i64 (wrap64 ((wrap64 (297 * n)).tdiv h))) ∧ Below w.heap.size w w' := by
  have r0 := Rat.start n h lb c0 c1 c2 c3 c4 c5 c6 c7 c9
  have s0 := b_bel1 w (.cells #[.int .i64 n, .int .i64 h] 73)
  go_enter Try.func49, Try.ntmps49
  go_wp2
  obtain ⟨w0, hw0⟩ : ∃ w0, w0 = w.alloc (.cells #[.int .i64 n, .int .i64 h] 73) := ⟨_, rfl⟩
  rw [← hw0] at r0 s0 ⊢
  clear hw0 c0 c1 c2 c3 c4 c5 c6 c7 c9
  refine wp_loop_rounds 5 ?_
  obtain ⟨lb0, lc0, n00, n10, k00, k10, k20, k30, k40, k50, k60, k70, k90⟩ := id r0
  rw [rounds_succ]
  go_wp2_with ((go_at_call 63; refine (hold0 n h _).mono ?_; rintro e w1 ⟨rfl, b1⟩; have s1 := b_bstep s0 b1; have r1 := r0.carry (bstep0 b1); have m0 := r1.n0; have m1 := r1.n1; have l1 := b1.cell (p := ⟨w0.heap.size, 1, none⟩) (by simp)))
  obtain ⟨lb1, lc1, n01, n11, k01, k11, k21, k31, k41, k51, k61, k71, k91⟩ := id r1
  rw [rounds_succ]
  go_wp2_with ((go_at_call 65; refine (hold1 n h _).mono ?_; rintro e w2 ⟨rfl, b2⟩; have s2 := b_bstep s1 b2; have r2 := r1.carry (bstep0 b2); have m0 := r2.n0; have m1 := r2.n1; have l1 := b2.cell (p := ⟨w1.heap.size, 1, none⟩) (by simp)))
  obtain ⟨lb2, lc2, n02, n12, k02, k12, k22, k32, k42, k52, k62, k72, k92⟩ := id r2
  rw [rounds_succ]
  go_wp2_with (first | (go_at_call 67; refine (hold2 n h _).mono ?_; rintro e w3 ⟨rfl, b3⟩; have s3 := b_bstep s2 b3; have r3 := r2.carry (bstep0 b3); have m0 := r3.n0; have m1 := r3.n1; have l1 := b3.cell (p := ⟨w2.heap.size, 1, none⟩) (by simp)) | (go_at_call 68; refine (value2 n h _ h1).mono ?_; rintro e w9 ⟨rfl, b9⟩))
  go_ret
  exact ⟨rfl, s3.trans (b9.mono s3.size)⟩
set_option maxHeartbeats 2000000 in
theorem rapply_3 (b : Nat) (n h : Int) (w : World) (lb : b < w.heap.size) (c0 : w.cell? ⟨b, 0, none⟩ = some (.func (.func 63) #[] #[])) (c1 : w.cell? ⟨b, 1, none⟩ = some (.func (.func 64) #[] #[])) (c2 : w.cell? ⟨b, 2, none⟩ = some (.func (.func 65) #[] #[])) (c3 : w.cell? ⟨b, 3, none⟩ = some (.func (.func 66) #[] #[])) (c4 : w.cell? ⟨b, 4, none⟩ = some (.func (.func 67) #[] #[])) (c5 : w.cell? ⟨b, 5, none⟩ = some (.func (.func 68) #[] #[])) (c6 : w.cell? ⟨b, 6, none⟩ = some (.func (.func 69) #[] #[])) (c7 : w.cell? ⟨b, 7, none⟩ = some (.func (.func 70) #[] #[])) (c9 : w.cell? ⟨b, 9, none⟩ = some (.func (.func 71) #[] #[]))
    (h0 : 1 ≤ n) (h1 : 1 ≤ h) (h2 : 7230584 < n) (h3 : 1663497 ≤ h) (d : Int) (hd : wrap64 (h.tdiv 297) = d) (hz : 1 ≤ d) :
    Calls Try.prog 49 #[.slice (some ⟨b, 0, none⟩) 5 5, .agg #[.int .i64 n, .int .i64 h]] w fun e w' => e = .returned (.int .i64 (wrap64 (n.tdiv d))) ∧ Below w.heap.size w w' := by
  have r0 := Rat.start n h lb c0 c1 c2 c3 c4 c5 c6 c7 c9
  have s0 := b_bel1 w (.cells #[.int .i64 n, .int .i64 h] 73)
  go_enter Try.func49, Try.ntmps49
  go_wp2
  obtain ⟨w0, hw0⟩ : ∃ w0, w0 = w.alloc (.cells #[.int .i64 n, .int .i64 h] 73) := ⟨_, rfl⟩
  rw [← hw0] at r0 s0 ⊢
  clear hw0 c0 c1 c2 c3 c4 c5 c6 c7 c9
  refine wp_loop_rounds 5 ?_
  obtain ⟨lb0, lc0, n00, n10, k00, k10, k20, k30, k40, k50, k60, k70, k90⟩ := id r0
  rw [rounds_succ]
  go_wp2_with ((go_at_call 63; refine (hold0 n h _).mono ?_; rintro e w1 ⟨rfl, b1⟩; have s1 := b_bstep s0 b1; have r1 := r0.carry (bstep0 b1); have m0 := r1.n0; have m1 := r1.n1; have l1 := b1.cell (p := ⟨w0.heap.size, 1, none⟩) (by simp)))
  obtain ⟨lb1, lc1, n01, n11, k01, k11, k21, k31, k41, k51, k61, k71, k91⟩ := id r1
  rw [rounds_succ]
  go_wp2_with ((go_at_call 65; refine (hold1 n h _).mono ?_; rintro e w2 ⟨rfl, b2⟩; have s2 := b_bstep s1 b2; have r2 := r1.carry (bstep0 b2); have m0 := r2.n0; have m1 := r2.n1; have l1 := b2.cell (p := ⟨w1.heap.size, 1, none⟩) (by simp)))
  obtain ⟨lb2, lc2, n02, n12, k02, k12, k22, k32, k42, k52, k62, k72, k92⟩ := id r2
  rw [rounds_succ]
  go_wp2_with ((go_at_call 67; refine (hold2 n h _).mono ?_; rintro e w3 ⟨rfl, b3⟩; have s3 := b_bstep s2 b3; have r3 := r2.carry (bstep0 b3); have m0 := r3.n0; have m1 := r3.n1; have l1 := b3.cell (p := ⟨w2.heap.size, 1, none⟩) (by simp)))
  obtain ⟨lb3, lc3, n03, n13, k03, k13, k23, k33, k43, k53, k63, k73, k93⟩ := id r3
  rw [rounds_succ]
  go_wp2_with (first | (go_at_call 69; refine (hold3 n h _).mono ?_; rintro e w4 ⟨rfl, b4⟩; have s4 := b_bstep s3 b4; have r4 := r3.carry (bstep0 b4); have m0 := r4.n0; have m1 := r4.n1; have l1 := b4.cell (p := ⟨w3.heap.size, 1, none⟩) (by simp)) | (go_at_call 70; refine (value3 n h _ d hd hz).mono ?_; rintro e w9 ⟨rfl, b9⟩))
  go_ret
  exact ⟨rfl, s4.trans (b9.mono s4.size)⟩
set_option maxHeartbeats 2000000 in
theorem rapply_4 (b : Nat) (n h : Int) (w : World) (lb : b < w.heap.size) (c0 : w.cell? ⟨b, 0, none⟩ = some (.func (.func 63) #[] #[])) (c1 : w.cell? ⟨b, 1, none⟩ = some (.func (.func 64) #[] #[])) (c2 : w.cell? ⟨b, 2, none⟩ = some (.func (.func 65) #[] #[])) (c3 : w.cell? ⟨b, 3, none⟩ = some (.func (.func 66) #[] #[])) (c4 : w.cell? ⟨b, 4, none⟩ = some (.func (.func 67) #[] #[])) (c5 : w.cell? ⟨b, 5, none⟩ = some (.func (.func 68) #[] #[])) (c6 : w.cell? ⟨b, 6, none⟩ = some (.func (.func 69) #[] #[])) (c7 : w.cell? ⟨b, 7, none⟩ = some (.func (.func 70) #[] #[])) (c9 : w.cell? ⟨b, 9, none⟩ = some (.func (.func 71) #[] #[]))
    (h0 : 1 ≤ n) (h1 : 1 ≤ h) (h2 : 7230584 < n) (h3 : h < 1663497) :
    Calls Try.prog 49 #[.slice (some ⟨b, 0, none⟩) 5 5, .agg #[.int .i64 n, .int .i64 h]] w fun e w' => e = .returned (.int .i64 n) ∧ Below w.heap.size w w' := by
  have r0 := Rat.start n h lb c0 c1 c2 c3 c4 c5 c6 c7 c9
  have s0 := b_bel1 w (.cells #[.int .i64 n, .int .i64 h] 73)
  go_enter Try.func49, Try.ntmps49
  go_wp2
  obtain ⟨w0, hw0⟩ : ∃ w0, w0 = w.alloc (.cells #[.int .i64 n, .int .i64 h] 73) := ⟨_, rfl⟩
  rw [← hw0] at r0 s0 ⊢
  clear hw0 c0 c1 c2 c3 c4 c5 c6 c7 c9
  refine wp_loop_rounds 5 ?_
  obtain ⟨lb0, lc0, n00, n10, k00, k10, k20, k30, k40, k50, k60, k70, k90⟩ := id r0
  rw [rounds_succ]
  go_wp2_with ((go_at_call 63; refine (hold0 n h _).mono ?_; rintro e w1 ⟨rfl, b1⟩; have s1 := b_bstep s0 b1; have r1 := r0.carry (bstep0 b1); have m0 := r1.n0; have m1 := r1.n1; have l1 := b1.cell (p := ⟨w0.heap.size, 1, none⟩) (by simp)))
  obtain ⟨lb1, lc1, n01, n11, k01, k11, k21, k31, k41, k51, k61, k71, k91⟩ := id r1
  rw [rounds_succ]
  go_wp2_with ((go_at_call 65; refine (hold1 n h _).mono ?_; rintro e w2 ⟨rfl, b2⟩; have s2 := b_bstep s1 b2; have r2 := r1.carry (bstep0 b2); have m0 := r2.n0; have m1 := r2.n1; have l1 := b2.cell (p := ⟨w1.heap.size, 1, none⟩) (by simp)))
  obtain ⟨lb2, lc2, n02, n12, k02, k12, k22, k32, k42, k52, k62, k72, k92⟩ := id r2
  rw [rounds_succ]
  go_wp2_with ((go_at_call 67; refine (hold2 n h _).mono ?_; rintro e w3 ⟨rfl, b3⟩; have s3 := b_bstep s2 b3; have r3 := r2.carry (bstep0 b3); have m0 := r3.n0; have m1 := r3.n1; have l1 := b3.cell (p := ⟨w2.heap.size, 1, none⟩) (by simp)))
  obtain ⟨lb3, lc3, n03, n13, k03, k13, k23, k33, k43, k53, k63, k73, k93⟩ := id r3
  rw [rounds_succ]
  go_wp2_with ((go_at_call 69; refine (hold3 n h _).mono ?_; rintro e w4 ⟨rfl, b4⟩; have s4 := b_bstep s3 b4; have r4 := r3.carry (bstep0 b4); have m0 := r4.n0; have m1 := r4.n1; have l1 := b4.cell (p := ⟨w3.heap.size, 1, none⟩) (by simp)))
  rw [rounds_succ]
  obtain ⟨lb4, lc4, n04, n14, k04, k14, k24, k34, k44, k54, k64, k74, k94⟩ := id r4
  go_wp2
  go_still_tail 6, (by kernel_rfl)
  go_wp2_with (go_at_call 71; refine (value4 n h _).mono ?_; rintro e w9 ⟨rfl, b9⟩)
  go_ret
  exact ⟨rfl, s4.drew.trans (b9.mono s4.size)⟩
end Go.Proofs.Ytojphpncidjdiaa
