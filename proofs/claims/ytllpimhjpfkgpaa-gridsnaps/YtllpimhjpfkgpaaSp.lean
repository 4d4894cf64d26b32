/- The contracts of package sp's functions and of the document's answers, over the cut of stage 1. -/
import Derived.Test.YtllpimhjpfkgpaaRows
import Derived.Test.YtllpimhjpfkgpaaMath
import Derived.WalkKit
namespace Go.Proofs.Ytllpimhjpfkgpaa
open Go.RowKit
set_option linter.unusedVariables false

/-- What a call hands back: a number and a bool. -/
def two (x : Int × Bool) : Value := .tuple #[.int .i64 x.1, .bool x.2]
/-- The document's pair, by value. -/
def pair (x : Int × Bool) : Value := .agg #[.int .i64 x.1, .bool x.2]

/-! ### sp -/
theorem add_yes (a b : Int) (w : World) (ha : inR a) (hb : inR b) (h : inR (a + b)) :
    Calls Try.prog 65 #[.int .i64 a, .int .i64 b] w fun e w' => e = .returned (.tuple #[.int .i64 (a + b), .bool true]) ∧ w = w' := by
  unfold inR at ha hb h
  by_cases h0 : 0 < b
  · have h1 : a < a + b := by omega
    go_enter Try.func65, Try.ntmps65
    go_wp2
    go_ret2
    exact ⟨rfl, rfl⟩
  · have h1 : ¬ a < a + b := by omega
    go_enter Try.func65, Try.ntmps65
    go_wp2
    go_ret2
    exact ⟨rfl, rfl⟩
theorem add_no (a b : Int) (w : World) (ha : inR a) (hb : inR b) (h : ¬ inR (a + b)) :
    Calls Try.prog 65 #[.int .i64 a, .int .i64 b] w fun e w' => e = .returned (.tuple #[.int .i64 0, .bool false]) ∧ w = w' := by
  unfold inR at ha hb h
  by_cases h0 : 0 < b
  · have h1 : ¬ a < wrap64 (a + b) := by rw [w64_hi _ (by omega) (by omega)]; omega
    go_enter Try.func65, Try.ntmps65
    go_wp2
    go_ret2
    exact ⟨rfl, rfl⟩
  · have h1 : a < wrap64 (a + b) := by rw [w64_lo _ (by omega) (by omega)]; omega
    go_enter Try.func65, Try.ntmps65
    go_wp2
    go_ret2
    exact ⟨rfl, rfl⟩
theorem add_any (a b : Int) (w : World) (ha : inR a) (hb : inR b) :
    Calls Try.prog 65 #[.int .i64 a, .int .i64 b] w fun e w' => e = .returned (two (addR a b)) ∧ w = w' := by
  by_cases h : inR (a + b)
  · rw [addR, fit_pos h]; exact add_yes a b w ha hb h
  · rw [addR, fit_neg h]; exact add_no a b w ha hb h

theorem sub_yes (a b : Int) (w : World) (ha : inR a) (hb : inR b) (h : inR (a - b)) :
    Calls Try.prog 63 #[.int .i64 a, .int .i64 b] w fun e w' => e = .returned (.tuple #[.int .i64 (a - b), .bool true]) ∧ w = w' := by
  unfold inR at ha hb h
  by_cases h0 : 0 < b
  · have h1 : a - b < a := by omega
    go_enter Try.func63, Try.ntmps63
    go_wp2
    go_ret2
    exact ⟨rfl, rfl⟩
  · have h1 : ¬ a - b < a := by omega
    go_enter Try.func63, Try.ntmps63
    go_wp2
    go_ret2
    exact ⟨rfl, rfl⟩
theorem sub_no (a b : Int) (w : World) (ha : inR a) (hb : inR b) (h : ¬ inR (a - b)) :
    Calls Try.prog 63 #[.int .i64 a, .int .i64 b] w fun e w' => e = .returned (.tuple #[.int .i64 0, .bool false]) ∧ w = w' := by
  unfold inR at ha hb h
  by_cases h0 : 0 < b
  · have h1 : ¬ wrap64 (a - b) < a := by rw [w64_lo _ (by omega) (by omega)]; omega
    go_enter Try.func63, Try.ntmps63
    go_wp2
    go_ret2
    exact ⟨rfl, rfl⟩
  · have h1 : wrap64 (a - b) < a := by rw [w64_hi _ (by omega) (by omega)]; omega
    go_enter Try.func63, Try.ntmps63
    go_wp2
    go_ret2
    exact ⟨rfl, rfl⟩
theorem sub_any (a b : Int) (w : World) (ha : inR a) (hb : inR b) :
    Calls Try.prog 63 #[.int .i64 a, .int .i64 b] w fun e w' => e = .returned (two (subR a b)) ∧ w = w' := by
  by_cases h : inR (a - b)
  · rw [subR, fit_pos h]; exact sub_yes a b w ha hb h
  · rw [subR, fit_neg h]; exact sub_no a b w ha hb h

theorem excess_any (a s : Int) (w : World) (ha : inR a) (hs : inR s) (h1 : 1 ≤ s) :
    Calls Try.prog 64 #[.int .i64 a, .int .i64 s] w fun e w' => e = .returned (.int .i64 (a % s)) ∧ w = w' := by
  unfold inR at ha hs
  have hb := over_bd a s h1
  by_cases h0 : 0 ≤ a.tmod s
  · have e := over_pos a s h1 h0
    rw [← e]
    clear e
    by_cases ha0 : 0 ≤ a
    · have e := Int.tmod_eq_emod_of_nonneg (b := s) ha0
      rw [e] at h0 hb ⊢
      clear e
      go_enter Try.func64, Try.ntmps64
      go_wp2
      go_ret
      exact ⟨rfl, rfl⟩
    · go_enter Try.func64, Try.ntmps64
      go_wp2
      go_ret
      exact ⟨rfl, rfl⟩
  · have e := over_neg a s h1 (by omega)
    rw [← e]
    clear e
    go_enter Try.func64, Try.ntmps64
    go_wp2
    go_ret
    exact ⟨rfl, rfl⟩
end Go.Proofs.Ytllpimhjpfkgpaa
