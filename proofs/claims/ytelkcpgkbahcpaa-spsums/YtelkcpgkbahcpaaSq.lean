/- More contracts of package sp's functions, over the cut of stage 1: Mul, Up, Down, the meter. -/
import Derived.Test.YtelkcpgkbahcpaaSp
namespace Go.Proofs.Ytelkcpgkbahcpaa
open Go.RowKit
set_option linter.unusedVariables false

theorem mul_zero (a : Int) (w : World) :
    Calls Try.prog 9 #[.int .i64 a, .int .i64 0] w fun e w' => e = .returned (.tuple #[.int .i64 0, .bool true]) ∧ w = w' := by
  go_enter Try.func9, Try.ntmps9
  go_wp2
  go_ret2
  exact ⟨rfl, rfl⟩
theorem mul_neg (a : Int) (w : World) (ha : inR a) :
    Calls Try.prog 9 #[.int .i64 a, .int .i64 (-1)] w fun e w' => e = .returned (two (subR 0 a)) ∧ w = w' := by
  go_enter Try.func9, Try.ntmps9
  go_wp2_with (go_at_call 12; refine (neg_any _ _ ha).mono ?_; rintro e w' ⟨rfl, rfl⟩; unfold two)
  go_ret2
  exact ⟨rfl, rfl⟩
theorem mul_yes (a n : Int) (w : World) (ha : inR a) (hn : inR n) (h0 : n ≠ 0) (h1 : n ≠ -1) (h : inR (a * n)) :
    Calls Try.prog 9 #[.int .i64 a, .int .i64 n] w fun e w' => e = .returned (.tuple #[.int .i64 (a * n), .bool true]) ∧ w = w' := by
  have hq := quo_back a n h0
  unfold inR at ha hn h
  by_cases hp : 1 ≤ n
  · by_cases hs : 0 ≤ a * n
    · have hb : ((a * n) / n != a) = false := by rw [Int.tdiv_eq_ediv_of_nonneg hs] at hq; rw [hq]; simp
      clear hq
      go_enter Try.func9, Try.ntmps9
      go_wp2
      go_ret2
      exact ⟨rfl, rfl⟩
    · have hb : ((a * n).tdiv n != a) = false := by rw [hq]; simp
      clear hq
      go_enter Try.func9, Try.ntmps9
      go_wp2
      go_ret2
      exact ⟨rfl, rfl⟩
  · have hb : (wrap64 ((a * n).tdiv n) != a) = false := by rw [hq, IntWalk.wrap64_in a ha]; simp
    clear hq
    go_enter Try.func9, Try.ntmps9
    go_wp2
    go_ret2
    exact ⟨rfl, rfl⟩
theorem mul_no (a n : Int) (w : World) (ha : inR a) (hn : inR n) (h0 : n ≠ 0) (h1 : n ≠ -1) (h : ¬ inR (a * n)) :
    Calls Try.prog 9 #[.int .i64 a, .int .i64 n] w fun e w' => e = .returned (.tuple #[.int .i64 0, .bool false]) ∧ w = w' := by
  have hq := quo_wrong a n hn h0 h
  have hw := w64_inR (a * n)
  have hn1 : n ≠ 1 := by rintro rfl; rw [Int.mul_one] at h; exact h ha
  have ht := tdiv_abs_le (wrap64 (a * n)) n (by unfold inR at hn; omega) hw
  unfold inR at ha hn h hw
  by_cases hp : 1 ≤ n
  · by_cases hs : 0 ≤ wrap64 (a * n)
    · have hb : (wrap64 (a * n) / n != a) = true := by rw [Int.tdiv_eq_ediv_of_nonneg hs] at hq; simpa using hq
      clear hq ht
      go_enter Try.func9, Try.ntmps9
      go_wp2
      go_ret2
      exact ⟨rfl, rfl⟩
    · have hb : ((wrap64 (a * n)).tdiv n != a) = true := by simpa using hq
      clear hq ht
      go_enter Try.func9, Try.ntmps9
      go_wp2
      go_ret2
      exact ⟨rfl, rfl⟩
  · have hb : (wrap64 ((wrap64 (a * n)).tdiv n) != a) = true := by rw [IntWalk.wrap64_in _ ht]; simpa using hq
    clear hq ht
    go_enter Try.func9, Try.ntmps9
    go_wp2
    go_ret2
    exact ⟨rfl, rfl⟩
theorem mul_any (a n : Int) (w : World) (ha : inR a) (hn : inR n) :
    Calls Try.prog 9 #[.int .i64 a, .int .i64 n] w fun e w' => e = .returned (two (mulR a n)) ∧ w = w' := by
  by_cases h0 : n = 0
  · subst h0
    have e : mulR a 0 = (0, true) := by unfold mulR; rw [Int.mul_zero]; exact fit_pos (by decide)
    rw [e]; exact mul_zero a w
  · by_cases h1 : n = -1
    · subst h1
      have e : mulR a (-1) = subR 0 a := by unfold mulR subR; congr 1; omega
      rw [e]; exact mul_neg a w ha
    · by_cases h : inR (a * n)
      · rw [mulR, fit_pos h]; exact mul_yes a n w ha hn h0 h1 h
      · rw [mulR, fit_neg h]; exact mul_no a n w ha hn h0 h1 h

theorem up_any (a s : Int) (w : World) (ha : inR a) (hs : inR s) :
    Calls Try.prog 10 #[.int .i64 a, .int .i64 s] w fun e w' => e = .returned (two (upR a s)) ∧ w = w' := by
  by_cases h1 : s < 1
  · rw [upR, if_pos h1]
    go_enter Try.func10, Try.ntmps10
    go_wp2
    go_ret2
    exact ⟨rfl, rfl⟩
  · have hb := emod_bd a s (by omega)
    by_cases h2 : a % s = 0
    · rw [upR, if_neg h1, if_pos h2]
      have h3 : (a % s == 0) = true := by simpa using h2
      clear h2
      go_enter Try.func10, Try.ntmps10
      go_wp2_with (go_at_call 26; refine (excess_any _ _ _ ha hs (by omega)).mono ?_; rintro e w' ⟨rfl, rfl⟩)
      go_ret2
      exact ⟨rfl, rfl⟩
    · rw [upR, if_neg h1, if_neg h2]
      have h3 : (a % s == 0) = false := by simpa using h2
      have h4 : inR (s - a % s) := by unfold inR at *; generalize a % s = t at *; omega
      have hs' := hs
      clear h2
      unfold inR at hs'
      go_enter Try.func10, Try.ntmps10
      go_wp2_with (first | (go_at_call 26; refine (excess_any _ _ _ ha hs (by omega)).mono ?_; rintro e w' ⟨rfl, rfl⟩) | (go_at_call 7; refine (add_any _ _ _ ha h4).mono ?_; rintro e w' ⟨rfl, rfl⟩; unfold two))
      go_ret2
      exact ⟨rfl, rfl⟩
theorem down_any (a s : Int) (w : World) (ha : inR a) (hs : inR s) :
    Calls Try.prog 11 #[.int .i64 a, .int .i64 s] w fun e w' => e = .returned (two (downR a s)) ∧ w = w' := by
  by_cases h1 : s < 1
  · rw [downR, if_pos h1]
    go_enter Try.func11, Try.ntmps11
    go_wp2
    go_ret2
    exact ⟨rfl, rfl⟩
  · have hb := emod_bd a s (by omega)
    rw [downR, if_neg h1]
    have h4 : inR (a % s) := by unfold inR at *; generalize a % s = t at *; omega
    go_enter Try.func11, Try.ntmps11
    go_wp2_with (first | (go_at_call 26; refine (excess_any _ _ _ ha hs (by omega)).mono ?_; rintro e w' ⟨rfl, rfl⟩) | (go_at_call 8; refine (sub_any _ _ _ ha h4).mono ?_; rintro e w' ⟨rfl, rfl⟩; unfold two))
    go_ret2
    exact ⟨rfl, rfl⟩
end Go.Proofs.Ytelkcpgkbahcpaa
