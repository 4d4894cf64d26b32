/- The fields of items: functions in fields, and what they answer. -/
import Derived.Test.YtinkjpcilpdaaaaIIs
import Derived.LoopN
import Derived.Laws.EntriesVeiled
namespace Go.Proofs.Ytinkjpcilpdaaaa
open Go.RowKit
set_option maxRecDepth 20000
set_option linter.unusedVariables false
set_option linter.unusedSimpArgs false

def btw (a lo hi : Int) : Bool := decide (lo ≤ a) && decide (a ≤ hi)
theorem btw_s (a lo hi : Int) (w : World) : Calls Try.prog 35 #[.int .i64 a, .int .i64 lo, .int .i64 hi] w fun e w' => e = .returned (.bool (btw a lo hi)) ∧ w' = w := by
  unfold btw
  by_cases h : lo ≤ a
  · go_enter Try.func35, Try.ntmps35
    go_wp2
    go_ret
    exact ⟨by simp [h], rfl⟩
  · have h' : decide (lo ≤ a) = false := decide_eq_false h
    rw [h']
    go_enter Try.func35, Try.ntmps35
    go_wp2
    go_ret
    exact ⟨rfl, rfl⟩
theorem btw_i (a lo hi : Int) (w : World) : Calls Try.prog 38 #[.int .i64 a, .int .i64 lo, .int .i64 hi] w fun e w' => e = .returned (.bool (btw a lo hi)) ∧ w' = w := by
  unfold btw
  by_cases h : lo ≤ a
  · go_enter Try.func38, Try.ntmps38
    go_wp2
    go_ret
    exact ⟨by simp [h], rfl⟩
  · have h' : decide (lo ≤ a) = false := decide_eq_false h
    rw [h']
    go_enter Try.func38, Try.ntmps38
    go_wp2
    go_ret
    exact ⟨rfl, rfl⟩
theorem val1 (x : I7) (w : World) : Calls Try.prog 33 #[itm x] w fun e w' => e = .returned (.int .i64 x.h) ∧ Below w.heap.size w w' := by
  unfold itm
  obtain ⟨k, h, f, s, o, r, n⟩ := x
  go_enter Try.func33, Try.ntmps33
  go_wp2
  go_ret
  exact ⟨rfl, tbel1 w _⟩
theorem val2 (x : I7) (w : World) : Calls Try.prog 36 #[itm x] w fun e w' => e = .returned (.int .i64 x.f) ∧ Below w.heap.size w w' := by
  unfold itm
  obtain ⟨k, h, f, s, o, r, n⟩ := x
  go_enter Try.func36, Try.ntmps36
  go_wp2
  go_ret
  exact ⟨rfl, tbel1 w _⟩
theorem val3 (x : I7) (w : World) : Calls Try.prog 39 #[itm x] w fun e w' => e = .returned (.int .i64 x.s) ∧ Below w.heap.size w w' := by
  unfold itm
  obtain ⟨k, h, f, s, o, r, n⟩ := x
  go_enter Try.func39, Try.ntmps39
  go_wp2
  go_ret
  exact ⟨rfl, tbel1 w _⟩
theorem val4 (x : I7) (w : World) : Calls Try.prog 41 #[itm x] w fun e w' => e = .returned (.int .i64 x.o) ∧ Below w.heap.size w w' := by
  unfold itm
  obtain ⟨k, h, f, s, o, r, n⟩ := x
  go_enter Try.func41, Try.ntmps41
  go_wp2
  go_ret
  exact ⟨rfl, tbel1 w _⟩
theorem val5 (x : I7) (w : World) : Calls Try.prog 43 #[itm x] w fun e w' => e = .returned (.int .i64 x.r) ∧ Below w.heap.size w w' := by
  unfold itm
  obtain ⟨k, h, f, s, o, r, n⟩ := x
  go_enter Try.func43, Try.ntmps43
  go_wp2
  go_ret
  exact ⟨rfl, tbel1 w _⟩
theorem val6 (x : I7) (w : World) : Calls Try.prog 45 #[itm x] w fun e w' => e = .returned (.int .i64 x.n) ∧ Below w.heap.size w w' := by
  unfold itm
  obtain ⟨k, h, f, s, o, r, n⟩ := x
  go_enter Try.func45, Try.ntmps45
  go_wp2
  go_ret
  exact ⟨rfl, tbel1 w _⟩
theorem fit1 (x : I7) (w : World) : Calls Try.prog 34 #[itm x] w fun e w' => e = .returned (.bool (btw x.h 0 1073741823)) ∧ Below w.heap.size w w' := by
  unfold itm
  obtain ⟨k, h, f, s, o, r, n⟩ := x
  have c := btw_s h 0 1073741823
  dsimp only
  generalize btw h 0 1073741823 = z at c ⊢
  go_enter Try.func34, Try.ntmps34
  go_wp2_with fail
  refine (c _).mono ?_
  rintro e w1 ⟨rfl, rfl⟩
  go_wp2
  go_ret
  exact ⟨rfl, tbel1 w _⟩
theorem fit2 (x : I7) (w : World) : Calls Try.prog 37 #[itm x] w fun e w' => e = .returned (.bool (btw x.f 0 3)) ∧ Below w.heap.size w w' := by
  unfold itm
  obtain ⟨k, h, f, s, o, r, n⟩ := x
  have c := btw_i f 0 3
  dsimp only
  generalize btw f 0 3 = z at c ⊢
  go_enter Try.func37, Try.ntmps37
  go_wp2_with fail
  refine (c _).mono ?_
  rintro e w1 ⟨rfl, rfl⟩
  go_wp2
  go_ret
  exact ⟨rfl, tbel1 w _⟩
theorem fit3 (x : I7) (w : World) : Calls Try.prog 40 #[itm x] w fun e w' => e = .returned (.bool (btw x.s 0 1073741823)) ∧ Below w.heap.size w w' := by
  unfold itm
  obtain ⟨k, h, f, s, o, r, n⟩ := x
  have c := btw_s s 0 1073741823
  dsimp only
  generalize btw s 0 1073741823 = z at c ⊢
  go_enter Try.func40, Try.ntmps40
  go_wp2_with fail
  refine (c _).mono ?_
  rintro e w1 ⟨rfl, rfl⟩
  go_wp2
  go_ret
  exact ⟨rfl, tbel1 w _⟩
theorem fit4 (x : I7) (w : World) : Calls Try.prog 42 #[itm x] w fun e w' => e = .returned (.bool (btw x.o 0 3)) ∧ Below w.heap.size w w' := by
  unfold itm
  obtain ⟨k, h, f, s, o, r, n⟩ := x
  have c := btw_i o 0 3
  dsimp only
  generalize btw o 0 3 = z at c ⊢
  go_enter Try.func42, Try.ntmps42
  go_wp2_with fail
  refine (c _).mono ?_
  rintro e w1 ⟨rfl, rfl⟩
  go_wp2
  go_ret
  exact ⟨rfl, tbel1 w _⟩
theorem fit5 (x : I7) (w : World) : Calls Try.prog 44 #[itm x] w fun e w' => e = .returned (.bool (btw x.r 0 (min x.h 1073741823))) ∧ Below w.heap.size w w' := by
  unfold itm
  obtain ⟨k, h, f, s, o, r, n⟩ := x
  dsimp only
  rcases Int.lt_trichotomy h 1073741823 with hm | hm | hm
  · have em : min h 1073741823 = h := by omega
    have c := btw_s r 0 h
    rw [em]
    generalize btw r 0 h = z at c ⊢
    clear em
    go_enter Try.func44, Try.ntmps44
    go_wp2_with (with_reducible refine (c _).mono ?_; rintro e w1 ⟨rfl, rfl⟩)
    go_ret
    exact ⟨rfl, tbel1 w _⟩
  · subst hm
    have c := btw_s r 0 1073741823
    rw [Int.min_self]
    generalize btw r 0 1073741823 = z at c ⊢
    go_enter Try.func44, Try.ntmps44
    go_wp2_with (with_reducible refine (c _).mono ?_; rintro e w1 ⟨rfl, rfl⟩)
    go_ret
    exact ⟨rfl, tbel1 w _⟩
  · have em : min h 1073741823 = 1073741823 := by omega
    have c := btw_s r 0 1073741823
    rw [em]
    generalize btw r 0 1073741823 = z at c ⊢
    clear em
    go_enter Try.func44, Try.ntmps44
    go_wp2_with (with_reducible refine (c _).mono ?_; rintro e w1 ⟨rfl, rfl⟩)
    go_ret
    exact ⟨rfl, tbel1 w _⟩
/-- The N that a kind may have. -/
def numI (k n : Int) : Bool := if k = 3 then decide (n = -10000) || btw n 0 10000 else if k = 4 then btw n 0 1048576 else if k = 5 then btw n 0 511 else btw n 0 255
theorem num_p1 (h f s o r : Int) (w : World) : Calls Try.prog 46 #[.agg #[.int .i64 3, .int .i64 h, .int .i64 f, .int .i64 s, .int .i64 o, .int .i64 r, .int .i64 (-10000)]] w fun e w' => e = .returned (.bool true) ∧ Below w.heap.size w w' := by
  go_enter Try.func46, Try.ntmps46
  go_wp2
  go_ret
  exact ⟨rfl, tbel1 w _⟩
theorem num_p2 (k h f s o r n : Int) (w : World) (hk : k = 3) (hn : n ≠ -10000) : Calls Try.prog 46 #[.agg #[.int .i64 k, .int .i64 h, .int .i64 f, .int .i64 s, .int .i64 o, .int .i64 r, .int .i64 n]] w fun e w' => e = .returned (.bool (btw n 0 10000)) ∧ Below w.heap.size w w' := by
  subst hk
  have hn' : (n == -10000) = false := by simpa using hn
  have c := btw_i n 0 10000
  generalize btw n 0 10000 = z at c ⊢
  go_enter Try.func46, Try.ntmps46
  go_wp2_with (with_reducible refine (c _).mono ?_; rintro e w1 ⟨rfl, rfl⟩)
  go_ret
  exact ⟨rfl, tbel1 w _⟩
theorem num_m (k h f s o r n : Int) (w : World) (hk : k = 4) : Calls Try.prog 46 #[.agg #[.int .i64 k, .int .i64 h, .int .i64 f, .int .i64 s, .int .i64 o, .int .i64 r, .int .i64 n]] w fun e w' => e = .returned (.bool (btw n 0 1048576)) ∧ Below w.heap.size w w' := by
  subst hk
  have c := btw_i n 0 1048576
  generalize btw n 0 1048576 = z at c ⊢
  go_enter Try.func46, Try.ntmps46
  go_wp2_with (with_reducible refine (c _).mono ?_; rintro e w1 ⟨rfl, rfl⟩)
  go_ret
  exact ⟨rfl, tbel1 w _⟩
theorem num_n (k h f s o r n : Int) (w : World) (hk : k = 5) : Calls Try.prog 46 #[.agg #[.int .i64 k, .int .i64 h, .int .i64 f, .int .i64 s, .int .i64 o, .int .i64 r, .int .i64 n]] w fun e w' => e = .returned (.bool (btw n 0 511)) ∧ Below w.heap.size w w' := by
  subst hk
  have c := btw_i n 0 511
  generalize btw n 0 511 = z at c ⊢
  go_enter Try.func46, Try.ntmps46
  go_wp2_with (with_reducible refine (c _).mono ?_; rintro e w1 ⟨rfl, rfl⟩)
  go_ret
  exact ⟨rfl, tbel1 w _⟩
theorem num_f (k h f s o r n : Int) (w : World) (h3 : k ≠ 3) (h4 : k ≠ 4) (h5 : k ≠ 5) : Calls Try.prog 46 #[.agg #[.int .i64 k, .int .i64 h, .int .i64 f, .int .i64 s, .int .i64 o, .int .i64 r, .int .i64 n]] w fun e w' => e = .returned (.bool (btw n 0 255)) ∧ Below w.heap.size w w' := by
  have c := btw_i n 0 255
  generalize btw n 0 255 = z at c ⊢
  go_enter Try.func46, Try.ntmps46
  go_wp2_with (with_reducible refine (c _).mono ?_; rintro e w1 ⟨rfl, rfl⟩)
  go_ret
  exact ⟨rfl, tbel1 w _⟩
theorem fit6 (x : I7) (w : World) : Calls Try.prog 46 #[itm x] w fun e w' => e = .returned (.bool (numI x.k x.n)) ∧ Below w.heap.size w w' := by
  unfold itm numI
  obtain ⟨k, h, f, s, o, r, n⟩ := x
  dsimp only
  by_cases h3 : k = 3
  · rw [if_pos h3]
    by_cases hn : n = -10000
    · rw [decide_eq_true hn, hn, h3]
      exact num_p1 h f s o r w
    · rw [decide_eq_false hn, Bool.false_or]
      exact num_p2 k h f s o r n w h3 hn
  · rw [if_neg h3]
    by_cases h4 : k = 4
    · rw [if_pos h4]
      exact num_m k h f s o r n w h4
    · rw [if_neg h4]
      by_cases h5 : k = 5
      · rw [if_pos h5]
        exact num_n k h f s o r n w h5
      · rw [if_neg h5]
        exact num_f k h f s o r n w h3 h4 h5
end Go.Proofs.Ytinkjpcilpdaaaa
