/- More contracts of the document's answers (package tympanref01), and of 'awake', over the cut of stage 1. -/
import Derived.Test.YtelkcpgkbahcpaaRe
namespace Go.Proofs.Ytelkcpgkbahcpaa
open Go.RowKit
set_option linter.unusedVariables false

/-- How far a number is from 0. -/
def sz (n : Int) : Int := if n < 0 then -n else n
theorem size_any (n : Int) (w : World) (hn : inR n) :
    Calls Try.prog 27 #[.int .i64 n] w fun e w' => e = .returned (.int .u64 (sz n)) ∧ w = w' := by
  by_cases h : n < 0
  · rw [sz, if_pos h]; exact size_neg n w hn h
  · rw [sz, if_neg h]; exact size_pos n w hn (by omega)
theorem div_lt {t s x : Int} (hs : 0 < s) : (t / s < x) ↔ t < x * s := Int.ediv_lt_iff_lt_mul hs
/-- The product's size, by the signs. -/
theorem sz_hi (a n : Int) (h : decide (a < 0) = decide (n < 0)) : sz a * sz n = a * n := by
  unfold sz
  by_cases h1 : a < 0 <;> by_cases h2 : n < 0 <;> simp [h1, h2, Int.neg_mul_neg] at h ⊢
theorem sz_lo (a n : Int) (h : decide (a < 0) ≠ decide (n < 0)) : sz a * sz n = -(a * n) := by
  unfold sz
  by_cases h1 : a < 0 <;> by_cases h2 : n < 0 <;> simp [h1, h2, Int.neg_mul, Int.mul_neg] at h ⊢
theorem sz_bd (n : Int) (hn : inR n) (h0 : n ≠ 0) : 1 ≤ sz n ∧ sz n ≤ 9223372036854775808 := by
  unfold inR at hn; unfold sz; split <;> omega

theorem rmul_zero (a n : Int) (w : World) (h : a = 0 ∨ n = 0) :
    Calls Try.prog 16 #[.int .i64 a, .int .i64 n] w fun e w' => e = .returned (.agg #[.int .i64 0, .bool true]) ∧ Below w.heap.size w w' := by
  by_cases ha : a = 0
  · subst ha
    go_enter Try.func16, Try.ntmps16
    go_wp2
    exact bodyPost_ret (v := .agg #[.int .i64 0, .bool true]) (by simp [results, Try.results16, go_sem]) rfl ⟨rfl, (Below.refl _ _).alloc (Nat.le_refl _) _⟩
  · obtain rfl : n = 0 := by omega
    have h1 : (a == 0) = false := by simpa using ha
    clear h ha
    go_enter Try.func16, Try.ntmps16
    go_wp2
    exact bodyPost_ret (v := .agg #[.int .i64 0, .bool true]) (by simp [results, Try.results16, go_sem]) rfl ⟨rfl, (Below.refl _ _).alloc (Nat.le_refl _) _⟩

theorem rmul_yes (a n : Int) (w : World) (ha : inR a) (hn : inR n) (a0 : (a == 0) = false) (n0 : (n == 0) = false) (h : inR (a * n))
    (ht : ¬ 9223372036854775807 / sz n < sz a ∧ decide (a < 0) = decide (n < 0) ∨ ¬ 9223372036854775808 / sz n < sz a ∧ decide (a < 0) ≠ decide (n < 0)) :
    Calls Try.prog 16 #[.int .i64 a, .int .i64 n] w fun e w' => e = .returned (.agg #[.int .i64 (a * n), .bool true]) ∧ Below w.heap.size w w' := by
  have hz := sz_bd n hn (by simpa using n0)
  have hy := sz_bd a ha (by simpa using a0)
  have ha' := ha
  have hn' := hn
  unfold inR at ha' hn' h
  rcases ht with ⟨ht, hs⟩ | ⟨ht, hs⟩
  · by_cases h1 : a < 0
    · have h2 : n < 0 := by simpa [h1] using hs
      clear hs
      go_enter Try.func16, Try.ntmps16
      go_wp2_with (go_at_call 27; refine (size_any _ _ (by first | exact ha | exact hn)).mono ?_; rintro e w' ⟨rfl, rfl⟩)
      exact bodyPost_ret (v := .agg #[.int .i64 (a * n), .bool true]) (by simp [results, Try.results16, go_sem]) rfl ⟨rfl, (Below.refl _ _).alloc (Nat.le_refl _) _⟩
    · have h2 : ¬ n < 0 := by simpa [h1] using hs
      clear hs
      go_enter Try.func16, Try.ntmps16
      go_wp2_with (go_at_call 27; refine (size_any _ _ (by first | exact ha | exact hn)).mono ?_; rintro e w' ⟨rfl, rfl⟩)
      exact bodyPost_ret (v := .agg #[.int .i64 (a * n), .bool true]) (by simp [results, Try.results16, go_sem]) rfl ⟨rfl, (Below.refl _ _).alloc (Nat.le_refl _) _⟩
  · by_cases h1 : a < 0
    · have h2 : ¬ n < 0 := by simpa [h1] using hs
      clear hs
      go_enter Try.func16, Try.ntmps16
      go_wp2_with (go_at_call 27; refine (size_any _ _ (by first | exact ha | exact hn)).mono ?_; rintro e w' ⟨rfl, rfl⟩)
      exact bodyPost_ret (v := .agg #[.int .i64 (a * n), .bool true]) (by simp [results, Try.results16, go_sem]) rfl ⟨rfl, (Below.refl _ _).alloc (Nat.le_refl _) _⟩
    · have h2 : n < 0 := by simpa [h1] using hs
      clear hs
      go_enter Try.func16, Try.ntmps16
      go_wp2_with (go_at_call 27; refine (size_any _ _ (by first | exact ha | exact hn)).mono ?_; rintro e w' ⟨rfl, rfl⟩)
      exact bodyPost_ret (v := .agg #[.int .i64 (a * n), .bool true]) (by simp [results, Try.results16, go_sem]) rfl ⟨rfl, (Below.refl _ _).alloc (Nat.le_refl _) _⟩
theorem rmul_no (a n : Int) (w : World) (ha : inR a) (hn : inR n) (a0 : (a == 0) = false) (n0 : (n == 0) = false) (h : ¬ inR (a * n))
    (ht : 9223372036854775807 / sz n < sz a ∧ decide (a < 0) = decide (n < 0) ∨ 9223372036854775808 / sz n < sz a ∧ decide (a < 0) ≠ decide (n < 0)) :
    Calls Try.prog 16 #[.int .i64 a, .int .i64 n] w fun e w' => e = .returned (.agg #[.int .i64 0, .bool false]) ∧ Below w.heap.size w w' := by
  have hz := sz_bd n hn (by simpa using n0)
  have hy := sz_bd a ha (by simpa using a0)
  have ha' := ha
  have hn' := hn
  unfold inR at ha' hn' h
  rcases ht with ⟨ht, hs⟩ | ⟨ht, hs⟩
  · by_cases h1 : a < 0
    · have h2 : n < 0 := by simpa [h1] using hs
      clear hs
      go_enter Try.func16, Try.ntmps16
      go_wp2_with (go_at_call 27; refine (size_any _ _ (by first | exact ha | exact hn)).mono ?_; rintro e w' ⟨rfl, rfl⟩)
      exact bodyPost_ret (v := .agg #[.int .i64 0, .bool false]) (by simp [results, Try.results16, go_sem]) rfl ⟨rfl, (Below.refl _ _).alloc (Nat.le_refl _) _⟩
    · have h2 : ¬ n < 0 := by simpa [h1] using hs
      clear hs
      go_enter Try.func16, Try.ntmps16
      go_wp2_with (go_at_call 27; refine (size_any _ _ (by first | exact ha | exact hn)).mono ?_; rintro e w' ⟨rfl, rfl⟩)
      exact bodyPost_ret (v := .agg #[.int .i64 0, .bool false]) (by simp [results, Try.results16, go_sem]) rfl ⟨rfl, (Below.refl _ _).alloc (Nat.le_refl _) _⟩
  · by_cases h1 : a < 0
    · have h2 : ¬ n < 0 := by simpa [h1] using hs
      clear hs
      go_enter Try.func16, Try.ntmps16
      go_wp2_with (go_at_call 27; refine (size_any _ _ (by first | exact ha | exact hn)).mono ?_; rintro e w' ⟨rfl, rfl⟩)
      exact bodyPost_ret (v := .agg #[.int .i64 0, .bool false]) (by simp [results, Try.results16, go_sem]) rfl ⟨rfl, (Below.refl _ _).alloc (Nat.le_refl _) _⟩
    · have h2 : n < 0 := by simpa [h1] using hs
      clear hs
      go_enter Try.func16, Try.ntmps16
      go_wp2_with (go_at_call 27; refine (size_any _ _ (by first | exact ha | exact hn)).mono ?_; rintro e w' ⟨rfl, rfl⟩)
      exact bodyPost_ret (v := .agg #[.int .i64 0, .bool false]) (by simp [results, Try.results16, go_sem]) rfl ⟨rfl, (Below.refl _ _).alloc (Nat.le_refl _) _⟩

theorem rmul_any (a n : Int) (w : World) (ha : inR a) (hn : inR n) :
    Calls Try.prog 16 #[.int .i64 a, .int .i64 n] w fun e w' => e = .returned (pair (mulR a n)) ∧ Below w.heap.size w w' := by
  by_cases h0 : a = 0 ∨ n = 0
  · have e : mulR a n = (0, true) := by unfold mulR; rw [show a * n = 0 from by rcases h0 with rfl | rfl <;> simp]; exact fit_pos (by decide)
    rw [e]; exact rmul_zero a n w h0
  · have a0 : a ≠ 0 := fun h => h0 (.inl h)
    have n0 : n ≠ 0 := fun h => h0 (.inr h)
    have hz := sz_bd n hn n0
    have a1 : (a == 0) = false := by simpa using a0
    have n1 : (n == 0) = false := by simpa using n0
    by_cases hs : decide (a < 0) = decide (n < 0)
    · have hm := sz_hi a n hs
      by_cases h : inR (a * n)
      · rw [mulR, fit_pos h]
        refine rmul_yes a n w ha hn a1 n1 h (.inl ⟨?_, hs⟩)
        rw [div_lt (by omega), hm]; unfold inR at h; omega
      · rw [mulR, fit_neg h]
        refine rmul_no a n w ha hn a1 n1 h (.inl ⟨?_, hs⟩)
        have hp : 0 ≤ sz a * sz n := Int.mul_nonneg (by have := sz_bd a ha a0; omega) (by omega)
        rw [div_lt (by omega), hm]; unfold inR at h; omega
    · have hm := sz_lo a n hs
      have hp : 0 ≤ sz a * sz n := Int.mul_nonneg (by have := sz_bd a ha a0; omega) (by omega)
      by_cases h : inR (a * n)
      · rw [mulR, fit_pos h]
        refine rmul_yes a n w ha hn a1 n1 h (.inr ⟨?_, hs⟩)
        rw [div_lt (by omega), hm]; unfold inR at h; omega
      · rw [mulR, fit_neg h]
        refine rmul_no a n w ha hn a1 n1 h (.inr ⟨?_, hs⟩)
        rw [div_lt (by omega), hm]; unfold inR at h; omega
end Go.Proofs.Ytelkcpgkbahcpaa
