/- The contracts of package sp's functions and of the document's answers, over the cut of stage 1. -/
import Derived.Test.YtomjglfamnacoaaRows
import Derived.Test.YtomjglfamnacoaaMath
import Derived.WalkKit
namespace Go.Proofs.Ytomjglfamnacoaa
open Go.RowKit
set_option maxRecDepth 20000
set_option linter.unusedVariables false

/-- What a call hands back: a number and a bool. -/
def two (x : Int × Bool) : Value := .tuple #[.int .i64 x.1, .bool x.2]
/-- The document's pair, by value. -/
def pair (x : Int × Bool) : Value := .agg #[.int .i64 x.1, .bool x.2]

/-! ### sp -/
theorem add_yes (a b : Int) (w : World) (ha : inR a) (hb : inR b) (h : inR (a + b)) :
    Calls Try.prog 37 #[.int .i64 a, .int .i64 b] w fun e w' => e = .returned (.tuple #[.int .i64 (a + b), .bool true]) ∧ w = w' := by
  unfold inR at ha hb h
  by_cases h0 : 0 < b
  · have h1 : a < a + b := by omega
    go_enter Try.func37, Try.ntmps37
    go_wp2
    go_ret2
    exact ⟨rfl, rfl⟩
  · have h1 : ¬ a < a + b := by omega
    go_enter Try.func37, Try.ntmps37
    go_wp2
    go_ret2
    exact ⟨rfl, rfl⟩
theorem add_no (a b : Int) (w : World) (ha : inR a) (hb : inR b) (h : ¬ inR (a + b)) :
    Calls Try.prog 37 #[.int .i64 a, .int .i64 b] w fun e w' => e = .returned (.tuple #[.int .i64 0, .bool false]) ∧ w = w' := by
  unfold inR at ha hb h
  by_cases h0 : 0 < b
  · have h1 : ¬ a < wrap64 (a + b) := by rw [w64_hi _ (by omega) (by omega)]; omega
    go_enter Try.func37, Try.ntmps37
    go_wp2
    go_ret2
    exact ⟨rfl, rfl⟩
  · have h1 : a < wrap64 (a + b) := by rw [w64_lo _ (by omega) (by omega)]; omega
    go_enter Try.func37, Try.ntmps37
    go_wp2
    go_ret2
    exact ⟨rfl, rfl⟩
theorem add_any (a b : Int) (w : World) (ha : inR a) (hb : inR b) :
    Calls Try.prog 37 #[.int .i64 a, .int .i64 b] w fun e w' => e = .returned (two (addR a b)) ∧ w = w' := by
  by_cases h : inR (a + b)
  · rw [addR, fit_pos h]; exact add_yes a b w ha hb h
  · rw [addR, fit_neg h]; exact add_no a b w ha hb h

theorem sub_yes (a b : Int) (w : World) (ha : inR a) (hb : inR b) (h : inR (a - b)) :
    Calls Try.prog 36 #[.int .i64 a, .int .i64 b] w fun e w' => e = .returned (.tuple #[.int .i64 (a - b), .bool true]) ∧ w = w' := by
  unfold inR at ha hb h
  by_cases h0 : 0 < b
  · have h1 : a - b < a := by omega
    go_enter Try.func36, Try.ntmps36
    go_wp2
    go_ret2
    exact ⟨rfl, rfl⟩
  · have h1 : ¬ a - b < a := by omega
    go_enter Try.func36, Try.ntmps36
    go_wp2
    go_ret2
    exact ⟨rfl, rfl⟩
theorem sub_no (a b : Int) (w : World) (ha : inR a) (hb : inR b) (h : ¬ inR (a - b)) :
    Calls Try.prog 36 #[.int .i64 a, .int .i64 b] w fun e w' => e = .returned (.tuple #[.int .i64 0, .bool false]) ∧ w = w' := by
  unfold inR at ha hb h
  by_cases h0 : 0 < b
  · have h1 : ¬ wrap64 (a - b) < a := by rw [w64_lo _ (by omega) (by omega)]; omega
    go_enter Try.func36, Try.ntmps36
    go_wp2
    go_ret2
    exact ⟨rfl, rfl⟩
  · have h1 : wrap64 (a - b) < a := by rw [w64_hi _ (by omega) (by omega)]; omega
    go_enter Try.func36, Try.ntmps36
    go_wp2
    go_ret2
    exact ⟨rfl, rfl⟩
theorem sub_any (a b : Int) (w : World) (ha : inR a) (hb : inR b) :
    Calls Try.prog 36 #[.int .i64 a, .int .i64 b] w fun e w' => e = .returned (two (subR a b)) ∧ w = w' := by
  by_cases h : inR (a - b)
  · rw [subR, fit_pos h]; exact sub_yes a b w ha hb h
  · rw [subR, fit_neg h]; exact sub_no a b w ha hb h

end Go.Proofs.Ytomjglfamnacoaa
