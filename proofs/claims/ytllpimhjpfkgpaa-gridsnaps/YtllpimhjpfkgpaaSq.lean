/- More contracts of package sp's functions, over the cut of stage 1: Mul, Up, Down, the meter. -/
import Derived.Test.YtllpimhjpfkgpaaSp
namespace Go.Proofs.Ytllpimhjpfkgpaa
open Go.RowKit
set_option linter.unusedVariables false

theorem up_any (a s : Int) (w : World) (ha : inR a) (hs : inR s) :
    Calls Try.prog 60 #[.int .i64 a, .int .i64 s] w fun e w' => e = .returned (two (upR a s)) ∧ w = w' := by
  by_cases h1 : s < 1
  · rw [upR, if_pos h1]
    go_enter Try.func60, Try.ntmps60
    go_wp2
    go_ret2
    exact ⟨rfl, rfl⟩
  · have hb := emod_bd a s (by omega)
    by_cases h2 : a % s = 0
    · rw [upR, if_neg h1, if_pos h2]
      have h3 : (a % s == 0) = true := by simpa using h2
      clear h2
      go_enter Try.func60, Try.ntmps60
      go_wp2_with (go_at_call 64; refine (excess_any _ _ _ ha hs (by omega)).mono ?_; rintro e w' ⟨rfl, rfl⟩)
      go_ret2
      exact ⟨rfl, rfl⟩
    · rw [upR, if_neg h1, if_neg h2]
      have h3 : (a % s == 0) = false := by simpa using h2
      have h4 : inR (s - a % s) := by unfold inR at *; generalize a % s = t at *; omega
      have hs' := hs
      clear h2
      unfold inR at hs'
      go_enter Try.func60, Try.ntmps60
      go_wp2_with (first | (go_at_call 64; refine (excess_any _ _ _ ha hs (by omega)).mono ?_; rintro e w' ⟨rfl, rfl⟩) | (go_at_call 65; refine (add_any _ _ _ ha h4).mono ?_; rintro e w' ⟨rfl, rfl⟩; unfold two))
      go_ret2
      exact ⟨rfl, rfl⟩
theorem down_any (a s : Int) (w : World) (ha : inR a) (hs : inR s) :
    Calls Try.prog 59 #[.int .i64 a, .int .i64 s] w fun e w' => e = .returned (two (downR a s)) ∧ w = w' := by
  by_cases h1 : s < 1
  · rw [downR, if_pos h1]
    go_enter Try.func59, Try.ntmps59
    go_wp2
    go_ret2
    exact ⟨rfl, rfl⟩
  · have hb := emod_bd a s (by omega)
    rw [downR, if_neg h1]
    have h4 : inR (a % s) := by unfold inR at *; generalize a % s = t at *; omega
    go_enter Try.func59, Try.ntmps59
    go_wp2_with (first | (go_at_call 64; refine (excess_any _ _ _ ha hs (by omega)).mono ?_; rintro e w' ⟨rfl, rfl⟩) | (go_at_call 63; refine (sub_any _ _ _ ha h4).mono ?_; rintro e w' ⟨rfl, rfl⟩; unfold two))
    go_ret2
    exact ⟨rfl, rfl⟩
end Go.Proofs.Ytllpimhjpfkgpaa
