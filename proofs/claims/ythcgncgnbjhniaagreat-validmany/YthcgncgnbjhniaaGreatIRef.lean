/- The document's Right. -/
import Derived.Test.YthcgncgnbjhniaaGreatIMath
namespace Go.Proofs.YthcgncgnbjhniaaGreat
open Go.RowKit
set_option maxRecDepth 20000
set_option linter.unusedVariables false
set_option linter.unusedSimpArgs false
theorem long_any (a : Int) (w : World) : Calls Tryz.prog 35 #[.int .i64 a] w fun e w' => e = .returned (.bool (btw a 0 1073741823)) ∧ w' = w := by
  unfold btw
  by_cases h : 0 ≤ a
  · go_enter Tryz.func35, Tryz.ntmps35
    go_wp2
    go_ret
    exact ⟨by simp [h], rfl⟩
  · have h' : decide (0 ≤ a) = false := decide_eq_false h
    rw [h']
    go_enter Tryz.func35, Tryz.ntmps35
    go_wp2
    go_ret
    exact ⟨rfl, rfl⟩
theorem ret_bool {v : Value} {b c : Bool} (h : v = .bool b) (e : b = c) : Ending.returned v = Ending.returned (.bool c) := by rw [h, e]
theorem btw_iff (a lo hi : Int) : (btw a lo hi = true) = (lo ≤ a ∧ a ≤ hi) := by unfold btw; simp
theorem not_true_false (b : Bool) : (¬ b = true) = (b = false) := by cases b <;> simp
theorem rr1 (h f s o r n : Int) (w : World) (R : Bool) (hR : Hid (R = decide (0 ≤ h ∧ h ≤ 1073741823 ∧ 0 ≤ f ∧ f ≤ 3 ∧ s = 0 ∧ o = 0 ∧ r = 0 ∧ n = 0))) :
    Calls Tryz.prog 12 #[.agg #[.int .i64 1, .int .i64 h, .int .i64 f, .int .i64 s, .int .i64 o, .int .i64 r, .int .i64 n]] w fun e w' => e = .returned (.bool R) ∧ Below w.heap.size w w' := by
  have c := long_any
  go_enter Tryz.func12, Tryz.ntmps12
  go_wp2_with (with_reducible refine (c _ _).mono ?_; rintro e w1 ⟨rfl, rfl⟩)
  all_goals go_ret
  all_goals refine ⟨ret_bool rfl ?_, tbel2 w _ _⟩
  all_goals clear c
  all_goals rw [hR.out]
  all_goals clear hR
  all_goals try simp only [btw_iff, bne_eq_false_iff_eq] at *
  all_goals first | exact (decide_eq_true (by omega)).symm | exact (decide_eq_false (by omega)).symm | exact decide_eq_decide.2 (by omega)
theorem rr2 (h f s o r n : Int) (w : World) (R : Bool) (hR : Hid (R = decide (0 ≤ h ∧ h ≤ 1073741823 ∧ f = 0 ∧ 0 ≤ s ∧ s ≤ 1073741823 ∧ 0 ≤ o ∧ o ≤ 3 ∧ 0 ≤ r ∧ r ≤ h ∧ r ≤ 1073741823 ∧ n = 0))) :
    Calls Tryz.prog 12 #[.agg #[.int .i64 2, .int .i64 h, .int .i64 f, .int .i64 s, .int .i64 o, .int .i64 r, .int .i64 n]] w fun e w' => e = .returned (.bool R) ∧ Below w.heap.size w w' := by
  have c := long_any
  go_enter Tryz.func12, Tryz.ntmps12
  go_wp2_with (with_reducible refine (c _ _).mono ?_; rintro e w1 ⟨rfl, rfl⟩)
  all_goals go_ret
  all_goals refine ⟨ret_bool rfl ?_, tbel2 w _ _⟩
  all_goals clear c
  all_goals rw [hR.out]
  all_goals clear hR
  all_goals try simp only [btw_iff, bne_eq_false_iff_eq] at *
  all_goals first | exact (decide_eq_true (by omega)).symm | exact (decide_eq_false (by omega)).symm | exact decide_eq_decide.2 (by omega)
theorem rr3 (h f s o r n : Int) (w : World) (R : Bool) (hR : Hid (R = decide (h = 0 ∧ f = 0 ∧ s = 0 ∧ o = 0 ∧ r = 0 ∧ (n = -10000 ∨ 0 ≤ n ∧ n ≤ 10000)))) :
    Calls Tryz.prog 12 #[.agg #[.int .i64 3, .int .i64 h, .int .i64 f, .int .i64 s, .int .i64 o, .int .i64 r, .int .i64 n]] w fun e w' => e = .returned (.bool R) ∧ Below w.heap.size w w' := by
  have c := long_any
  go_enter Tryz.func12, Tryz.ntmps12
  go_wp2_with (with_reducible refine (c _ _).mono ?_; rintro e w1 ⟨rfl, rfl⟩)
  all_goals go_ret
  all_goals refine ⟨ret_bool rfl ?_, tbel2 w _ _⟩
  all_goals clear c
  all_goals rw [hR.out]
  all_goals clear hR
  all_goals try simp only [btw_iff, bne_eq_false_iff_eq] at *
  all_goals first | exact (decide_eq_true (by omega)).symm | exact (decide_eq_false (by omega)).symm | exact decide_eq_decide.2 (by omega)
theorem rr4 (h f s o r n : Int) (w : World) (R : Bool) (hR : Hid (R = decide (h = 0 ∧ f = 0 ∧ s = 0 ∧ o = 0 ∧ r = 0 ∧ 0 ≤ n ∧ n ≤ 1048576))) :
    Calls Tryz.prog 12 #[.agg #[.int .i64 4, .int .i64 h, .int .i64 f, .int .i64 s, .int .i64 o, .int .i64 r, .int .i64 n]] w fun e w' => e = .returned (.bool R) ∧ Below w.heap.size w w' := by
  have c := long_any
  go_enter Tryz.func12, Tryz.ntmps12
  go_wp2_with (with_reducible refine (c _ _).mono ?_; rintro e w1 ⟨rfl, rfl⟩)
  all_goals go_ret
  all_goals refine ⟨ret_bool rfl ?_, tbel2 w _ _⟩
  all_goals clear c
  all_goals rw [hR.out]
  all_goals clear hR
  all_goals try simp only [btw_iff, bne_eq_false_iff_eq] at *
  all_goals first | exact (decide_eq_true (by omega)).symm | exact (decide_eq_false (by omega)).symm | exact decide_eq_decide.2 (by omega)
theorem rr5 (h f s o r n : Int) (w : World) (R : Bool) (hR : Hid (R = decide (h = 0 ∧ f = 0 ∧ s = 0 ∧ o = 0 ∧ r = 0 ∧ 0 ≤ n ∧ n ≤ 511))) :
    Calls Tryz.prog 12 #[.agg #[.int .i64 5, .int .i64 h, .int .i64 f, .int .i64 s, .int .i64 o, .int .i64 r, .int .i64 n]] w fun e w' => e = .returned (.bool R) ∧ Below w.heap.size w w' := by
  have c := long_any
  go_enter Tryz.func12, Tryz.ntmps12
  go_wp2_with (with_reducible refine (c _ _).mono ?_; rintro e w1 ⟨rfl, rfl⟩)
  all_goals go_ret
  all_goals refine ⟨ret_bool rfl ?_, tbel2 w _ _⟩
  all_goals clear c
  all_goals rw [hR.out]
  all_goals clear hR
  all_goals try simp only [btw_iff, bne_eq_false_iff_eq] at *
  all_goals first | exact (decide_eq_true (by omega)).symm | exact (decide_eq_false (by omega)).symm | exact decide_eq_decide.2 (by omega)
theorem rr6 (h f s o r n : Int) (w : World) (R : Bool) (hR : Hid (R = decide (h = 0 ∧ f = 0 ∧ s = 0 ∧ o = 0 ∧ r = 0 ∧ 0 ≤ n ∧ n ≤ 255))) :
    Calls Tryz.prog 12 #[.agg #[.int .i64 6, .int .i64 h, .int .i64 f, .int .i64 s, .int .i64 o, .int .i64 r, .int .i64 n]] w fun e w' => e = .returned (.bool R) ∧ Below w.heap.size w w' := by
  have c := long_any
  go_enter Tryz.func12, Tryz.ntmps12
  go_wp2_with (with_reducible refine (c _ _).mono ?_; rintro e w1 ⟨rfl, rfl⟩)
  all_goals go_ret
  all_goals refine ⟨ret_bool rfl ?_, tbel2 w _ _⟩
  all_goals clear c
  all_goals rw [hR.out]
  all_goals clear hR
  all_goals try simp only [btw_iff, bne_eq_false_iff_eq] at *
  all_goals first | exact (decide_eq_true (by omega)).symm | exact (decide_eq_false (by omega)).symm | exact decide_eq_decide.2 (by omega)
theorem rr7 (h f s o r n : Int) (w : World) (R : Bool) (hR : Hid (R = decide (h = 0 ∧ f = 0 ∧ s = 0 ∧ o = 0 ∧ r = 0 ∧ n = 0))) :
    Calls Tryz.prog 12 #[.agg #[.int .i64 7, .int .i64 h, .int .i64 f, .int .i64 s, .int .i64 o, .int .i64 r, .int .i64 n]] w fun e w' => e = .returned (.bool R) ∧ Below w.heap.size w w' := by
  have c := long_any
  go_enter Tryz.func12, Tryz.ntmps12
  go_wp2_with (with_reducible refine (c _ _).mono ?_; rintro e w1 ⟨rfl, rfl⟩)
  all_goals go_ret
  all_goals refine ⟨ret_bool rfl ?_, tbel2 w _ _⟩
  all_goals clear c
  all_goals rw [hR.out]
  all_goals clear hR
  all_goals try simp only [btw_iff, bne_eq_false_iff_eq] at *
  all_goals first | exact (decide_eq_true (by omega)).symm | exact (decide_eq_false (by omega)).symm | exact decide_eq_decide.2 (by omega)
theorem rr0 (k h f s o r n : Int) (w : World) (hk : k < 1 ∨ 7 < k) :
    Calls Tryz.prog 12 #[.agg #[.int .i64 k, .int .i64 h, .int .i64 f, .int .i64 s, .int .i64 o, .int .i64 r, .int .i64 n]] w fun e w' => e = .returned (.bool false) ∧ Below w.heap.size w w' := by
  have e1 : (k == 1) = false := by simp; omega
  have e2 : (k == 2) = false := by simp; omega
  have e3 : (k == 3) = false := by simp; omega
  have e4 : (k == 4) = false := by simp; omega
  have e5 : (k == 5) = false := by simp; omega
  have e6 : (k == 6) = false := by simp; omega
  have e7 : (k == 7) = false := by simp; omega
  clear hk
  go_enter Tryz.func12, Tryz.ntmps12
  go_wp2
  go_ret
  exact ⟨rfl, tbel2 w _ _⟩
theorem rright_any (x : I7) (w : World) : Calls Tryz.prog 12 #[itm x] w fun e w' => e = .returned (.bool (rightI x)) ∧ Below w.heap.size w w' := by
  obtain ⟨k, h, f, s, o, r, n⟩ := x
  unfold itm
  dsimp only
  by_cases hk : k < 1 ∨ 7 < k
  · have e : rightI ⟨k, h, f, s, o, r, n⟩ = false := by
      unfold rightI
      rcases hk with hk | hk
      · rw [decide_eq_false (p := 1 ≤ k) (by omega), Bool.false_and, Bool.false_and]
      · rw [decide_eq_false (p := k ≤ 7) (by omega), Bool.and_false, Bool.false_and]
    rw [e]
    exact rr0 k h f s o r n w hk
  · rcases (show k = 1 ∨ k = 2 ∨ k = 3 ∨ k = 4 ∨ k = 5 ∨ k = 6 ∨ k = 7 by omega) with rfl | rfl | rfl | rfl | rfl | rfl | rfl
    · exact rr1 h f s o r n w _ (Lib.hid (right_1 h f s o r n))
    · exact rr2 h f s o r n w _ (Lib.hid (right_2 h f s o r n))
    · exact rr3 h f s o r n w _ (Lib.hid (right_3 h f s o r n))
    · exact rr4 h f s o r n w _ (Lib.hid (right_4 h f s o r n))
    · exact rr5 h f s o r n w _ (Lib.hid (right_5 h f s o r n))
    · exact rr6 h f s o r n w _ (Lib.hid (right_6 h f s o r n))
    · exact rr7 h f s o r n w _ (Lib.hid (right_7 h f s o r n))
end Go.Proofs.YthcgncgnbjhniaaGreat
