/- Floats, and the small functions of package figure. -/
import Derived.Test.YtgohglghmhhdnaaNMath
import Derived.Test.YtgohglghmhhdnaaTRow
import Derived.Test.YtgohglghmhhdnaaBlk
import Derived.Test.YtgohglghmhhdnaaUBit
namespace Go.Proofs.Ytgohglghmhhdnaa
open Go.RowKit
set_option maxRecDepth 20000
set_option linter.unusedVariables false
set_option linter.unusedSimpArgs false

/-- A float. -/
structure F3 where
  c : Int
  h : Int
  p : Int
def flt (x : F3) : Value := .agg #[.int .i64 x.c, .int .i64 x.h, .int .i64 x.p]
def classF (x : F3) : Bool := decide (0 ≤ x.c) && decide (x.c < 3)
def rightF (x : F3) : Bool := classF x && (decide (1 ≤ x.h) && decide (x.h ≤ 1073741823) && (decide (0 ≤ x.p) && decide (x.p ≤ 3)))
def topF (x : F3) : Bool := decide (x.p % 2 = 1)
def botF (x : F3) : Bool := decide (x.p / 2 % 2 = 1)
theorem classed_any (x : F3) (w : World) : Calls Try.prog 18 #[flt x] w fun e w' => e = .returned (.bool (classF x)) ∧ Below w.heap.size w w' := by
  unfold classF
  obtain ⟨c, h, p⟩ := x
  unfold flt
  dsimp only
  by_cases g : 0 ≤ c
  · rw [decide_eq_true g]
    go_enter Try.func18, Try.ntmps18
    go_wp2
    go_ret
    exact ⟨rfl, tbel1 w _⟩
  · rw [decide_eq_false g]
    go_enter Try.func18, Try.ntmps18
    go_wp2
    go_ret
    exact ⟨rfl, tbel1 w _⟩
theorem top_walk (p : Int) (w : World) : Calls Try.prog 20 #[.int .i64 p] w fun e w' => e = .returned (.bool (decide (p % 2 = 1))) ∧ w' = w := by
  have e : (bits .and .i64 p 1 != 0) = decide (p % 2 = 1) := by
    rw [and_1]
    by_cases h : p % 2 = 1
    · rw [h]; decide
    · rw [show p % 2 = 0 by omega]; decide
  go_enter Try.func20, Try.ntmps20
  go_wp2
  go_ret
  exact ⟨by rw [← e]; rfl, rfl⟩
theorem bottom_walk (p : Int) (w : World) : Calls Try.prog 21 #[.int .i64 p] w fun e w' => e = .returned (.bool (decide (p / 2 % 2 = 1))) ∧ w' = w := by
  have e : (bits .and .i64 p 2 != 0) = decide (p / 2 % 2 = 1) := by
    rw [and_2]
    by_cases h : p / 2 % 2 = 1
    · rw [h]; decide
    · rw [show p / 2 % 2 = 0 by omega]; decide
  go_enter Try.func21, Try.ntmps21
  go_wp2
  go_ret
  exact ⟨by rw [← e]; rfl, rfl⟩
theorem may_top (x : F3) (w : World) : Calls Try.prog 19 #[flt x, .func (.func 20) #[] #[]] w fun e w' => e = .returned (.bool (topF x)) ∧ Below w.heap.size w w' := by
  unfold topF
  obtain ⟨c, h, p⟩ := x
  unfold flt
  dsimp only
  have k := top_walk p
  generalize decide (p % 2 = 1) = z at *
  go_enter Try.func19, Try.ntmps19
  go_wp2_with fail
  refine (k _).mono ?_
  rintro e w1 ⟨rfl, rfl⟩
  go_wp2
  go_ret
  exact ⟨rfl, tbel1 w _⟩
theorem may_bottom (x : F3) (w : World) : Calls Try.prog 19 #[flt x, .func (.func 21) #[] #[]] w fun e w' => e = .returned (.bool (botF x)) ∧ Below w.heap.size w w' := by
  unfold botF
  obtain ⟨c, h, p⟩ := x
  unfold flt
  dsimp only
  have k := bottom_walk p
  generalize decide (p / 2 % 2 = 1) = z at *
  go_enter Try.func19, Try.ntmps19
  go_wp2_with fail
  refine (k _).mono ?_
  rintro e w1 ⟨rfl, rfl⟩
  go_wp2
  go_ret
  exact ⟨rfl, tbel1 w _⟩
theorem ftop_any (x : F3) (w : World) : Calls Try.prog 8 #[flt x] w fun e w' => e = .returned (.bool (topF x)) ∧ Below w.heap.size w w' := by
  have k := may_top x
  generalize topF x = z at *
  obtain ⟨c, h, p⟩ := x
  unfold flt at *
  dsimp only at *
  go_enter Try.func8, Try.ntmps8
  go_wp2_with fail
  refine (k _).mono ?_
  rintro e w1 ⟨rfl, b1⟩
  replace b1 := tstep (tbel1 w _) b1 (tbel1 w _).size
  go_wp2
  go_ret
  exact ⟨rfl, b1⟩
theorem fbottom_any (x : F3) (w : World) : Calls Try.prog 9 #[flt x] w fun e w' => e = .returned (.bool (botF x)) ∧ Below w.heap.size w w' := by
  have k := may_bottom x
  generalize botF x = z at *
  obtain ⟨c, h, p⟩ := x
  unfold flt at *
  dsimp only at *
  go_enter Try.func9, Try.ntmps9
  go_wp2_with fail
  refine (k _).mono ?_
  rintro e w1 ⟨rfl, b1⟩
  replace b1 := tstep (tbel1 w _) b1 (tbel1 w _).size
  go_wp2
  go_ret
  exact ⟨rfl, b1⟩
def errF (b : Bool) : Value := .int .i64 (cond b 0 10)
theorem Blk.triple {w : World} {g : Nat} {T : TypeId} {v0 v1 v2 : Value} (h : Blk w g #[v0, v1, v2] T) : w.cell? ⟨g, 0, none⟩ = some v0 ∧ w.cell? ⟨g, 1, none⟩ = some v1 ∧ w.cell? ⟨g, 2, none⟩ = some v2 := by
  unfold Blk at h
  simp [World.cell?, h]
theorem fcheck_any (x : F3) (w : World) : Calls Try.prog 6 #[flt x] w fun e w' => e = .returned (errF (rightF x)) ∧ Below w.heap.size w w' := by
  have k := classed_any x
  unfold rightF errF
  generalize classF x = z at *
  obtain ⟨c, h, p⟩ := x
  unfold flt at *
  dsimp only at *
  have h' : (z = false ∨ z = true ∧ h < 1 ∨ z = true ∧ ¬ h < 1 ∧ 1073741823 < h ∨ z = true ∧ ¬ h < 1 ∧ ¬ 1073741823 < h ∧ p < 0 ∨ z = true ∧ ¬ h < 1 ∧ ¬ 1073741823 < h ∧ ¬ p < 0 ∧ 3 < p) ∨ z = true ∧ ¬ h < 1 ∧ ¬ 1073741823 < h ∧ ¬ p < 0 ∧ ¬ 3 < p := by
    cases z <;> simp <;> omega
  rcases h' with h' | ⟨rfl, g1, g2, g3, g4⟩
  · have e : (z && (decide (1 ≤ h) && decide (h ≤ 1073741823) && (decide (0 ≤ p) && decide (p ≤ 3)))) = false := by
      rcases h' with rfl | ⟨rfl, g⟩ | ⟨rfl, g, g'⟩ | ⟨rfl, g, g', g''⟩ | ⟨rfl, g, g', g'', g3⟩ <;> simp <;> omega
    rw [e]
    clear e
    rcases h' with rfl | ⟨rfl, g⟩ | ⟨rfl, g, g'⟩ | ⟨rfl, g, g', g''⟩ | ⟨rfl, g, g', g'', g3⟩
    all_goals
      go_enter Try.func6, Try.ntmps6
      go_wp2_with fail
      refine (k _).mono ?_
      rintro e w1 ⟨rfl, b1⟩
      have B := (blk_new w _ _).old b1
      obtain ⟨q0, q1, q2⟩ := B.triple
      replace b1 := tstep (tbel1 w _) b1 (tbel1 w _).size
      clear B
      go_wp2
      go_ret
      exact ⟨rfl, b1⟩
  · rw [show (true && (decide (1 ≤ h) && decide (h ≤ 1073741823) && (decide (0 ≤ p) && decide (p ≤ 3)))) = true by simp; omega]
    go_enter Try.func6, Try.ntmps6
    go_wp2_with fail
    refine (k _).mono ?_
    rintro e w1 ⟨rfl, b1⟩
    have B := (blk_new w _ _).old b1
    obtain ⟨q0, q1, q2⟩ := B.triple
    replace b1 := tstep (tbel1 w _) b1 (tbel1 w _).size
    clear B
    go_wp2
    go_ret
    exact ⟨rfl, b1⟩
theorem rfright_any (x : F3) (w : World) : Calls Try.prog 7 #[flt x] w fun e w' => e = .returned (.bool (rightF x)) ∧ Below w.heap.size w w' := by
  unfold rightF classF
  obtain ⟨c, h, p⟩ := x
  unfold flt
  dsimp only
  have h' : (c < 0 ∨ 0 ≤ c ∧ 2 < c ∨ 0 ≤ c ∧ c ≤ 2 ∧ h < 1 ∨ 0 ≤ c ∧ c ≤ 2 ∧ 1 ≤ h ∧ 1073741823 < h ∨ 0 ≤ c ∧ c ≤ 2 ∧ 1 ≤ h ∧ h ≤ 1073741823 ∧ p < 0 ∨ 0 ≤ c ∧ c ≤ 2 ∧ 1 ≤ h ∧ h ≤ 1073741823 ∧ 0 ≤ p ∧ 3 < p) ∨ 0 ≤ c ∧ c ≤ 2 ∧ 1 ≤ h ∧ h ≤ 1073741823 ∧ 0 ≤ p ∧ p ≤ 3 := by omega
  rcases h' with h' | g
  · have e : (decide (0 ≤ c) && decide (c < 3) && (decide (1 ≤ h) && decide (h ≤ 1073741823) && (decide (0 ≤ p) && decide (p ≤ 3)))) = false := by
      simp
      omega
    rw [e]
    clear e
    rcases h' with g | ⟨g1, g⟩ | ⟨g1, g2, g⟩ | ⟨g1, g2, g3, g⟩ | ⟨g1, g2, g3, g4, g⟩ | ⟨g1, g2, g3, g4, g5, g⟩
    all_goals
      go_enter Try.func7, Try.ntmps7
      go_wp2
      go_ret
      exact ⟨by first | rfl | (show Ending.returned (Value.bool (decide (p ≤ 3))) = _; rw [decide_eq_false (by omega)]), tbel1 w _⟩
  · have e : (decide (0 ≤ c) && decide (c < 3) && (decide (1 ≤ h) && decide (h ≤ 1073741823) && (decide (0 ≤ p) && decide (p ≤ 3)))) = true := by
      simp
      omega
    rw [e]
    clear e
    obtain ⟨g1, g2, g3, g4, g5, g6⟩ := g
    go_enter Try.func7, Try.ntmps7
    go_wp2
    go_ret
    exact ⟨by first | rfl | (show Ending.returned (Value.bool (decide (p ≤ 3))) = _; rw [decide_eq_true (by omega)]), tbel1 w _⟩
theorem flevel_any (x : Int) (w : World) : Calls Try.prog 22 #[.int .i64 x] w fun e w' => e = .returned (.int .i64 (levN x)) ∧ w' = w := by
  unfold levN
  by_cases h1 : x < 0
  · rw [if_pos h1]
    go_enter Try.func22, Try.ntmps22
    go_wp2
    go_ret
    exact ⟨rfl, rfl⟩
  · rw [if_neg h1]
    by_cases h2 : 1125899906842624 < x
    · rw [if_pos h2]
      go_enter Try.func22, Try.ntmps22
      go_wp2
      go_ret
      exact ⟨rfl, rfl⟩
    · rw [if_neg h2]
      go_enter Try.func22, Try.ntmps22
      go_wp2
      go_ret
      exact ⟨rfl, rfl⟩
theorem held_any (x : Int) (w : World) : Calls Try.prog 23 #[.int .i64 x] w fun e w' => e = .returned (.int .i64 (levN x)) ∧ w' = w := by
  unfold levN
  by_cases h1 : x < 0
  · rw [if_pos h1]
    go_enter Try.func23, Try.ntmps23
    go_wp2
    go_ret
    exact ⟨rfl, rfl⟩
  · rw [if_neg h1]
    by_cases h2 : 1125899906842624 < x
    · rw [if_pos h2]
      go_enter Try.func23, Try.ntmps23
      go_wp2
      go_ret
      exact ⟨rfl, rfl⟩
    · rw [if_neg h2]
      by_cases h3 : x = 0
      · subst h3
        go_enter Try.func23, Try.ntmps23
        go_wp2
        go_ret
        exact ⟨rfl, rfl⟩
      · have h4 : 0 < x := by omega
        go_enter Try.func23, Try.ntmps23
        go_wp2
        go_ret
        exact ⟨rfl, rfl⟩
end Go.Proofs.Ytgohglghmhhdnaa
