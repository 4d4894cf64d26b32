/- The contracts of the document's answers (package tympanref01), of 'is' and of 'awake', over the cut of stage 1. -/
import Derived.Test.YtomjglfamnacoaaMe
namespace Go.Proofs.Ytomjglfamnacoaa
open Go.RowKit
set_option maxRecDepth 20000
set_option linter.unusedVariables false

theorem radd_yes (a b : Int) (w : World) (ha : inR a) (hb : inR b) (h : inR (a + b)) :
    Calls Try.prog 27 #[.int .i64 a, .int .i64 b] w fun e w' => e = .returned (.agg #[.int .i64 (a + b), .bool true]) ∧ Below w.heap.size w w' := by
  unfold inR at ha hb h
  by_cases h0 : 0 < b
  · go_enter Try.func27, Try.ntmps27
    go_wp2
    exact bodyPost_ret (v := .agg #[.int .i64 (a + b), .bool true]) (by simp [results, Try.results27, go_sem]) rfl ⟨rfl, (Below.refl _ _).alloc (Nat.le_refl _) _⟩
  · by_cases h2 : b < 0
    all_goals
      go_enter Try.func27, Try.ntmps27
      go_wp2
      exact bodyPost_ret (v := .agg #[.int .i64 (a + b), .bool true]) (by simp [results, Try.results27, go_sem]) rfl ⟨rfl, (Below.refl _ _).alloc (Nat.le_refl _) _⟩
theorem radd_no (a b : Int) (w : World) (ha : inR a) (hb : inR b) (h : ¬ inR (a + b)) :
    Calls Try.prog 27 #[.int .i64 a, .int .i64 b] w fun e w' => e = .returned (.agg #[.int .i64 0, .bool false]) ∧ Below w.heap.size w w' := by
  unfold inR at ha hb h
  by_cases h0 : 0 < b
  · have h1 : 9223372036854775807 - b < a := by omega
    go_enter Try.func27, Try.ntmps27
    go_wp2
    exact bodyPost_ret (v := .agg #[.int .i64 0, .bool false]) (by simp [results, Try.results27, go_sem]) rfl ⟨rfl, (Below.refl _ _).alloc (Nat.le_refl _) _⟩
  · have h1 : a < -9223372036854775808 - b := by omega
    have h2 : b < 0 := by omega
    go_enter Try.func27, Try.ntmps27
    go_wp2
    exact bodyPost_ret (v := .agg #[.int .i64 0, .bool false]) (by simp [results, Try.results27, go_sem]) rfl ⟨rfl, (Below.refl _ _).alloc (Nat.le_refl _) _⟩
theorem radd_any (a b : Int) (w : World) (ha : inR a) (hb : inR b) :
    Calls Try.prog 27 #[.int .i64 a, .int .i64 b] w fun e w' => e = .returned (pair (addR a b)) ∧ Below w.heap.size w w' := by
  by_cases h : inR (a + b)
  · rw [addR, fit_pos h]; exact radd_yes a b w ha hb h
  · rw [addR, fit_neg h]; exact radd_no a b w ha hb h

theorem ret_int {k : IntKind} {a b : Int} (h : a = b) : Ending.returned (.int k a) = .returned (.int k b) := by rw [h]
end Go.Proofs.Ytomjglfamnacoaa
