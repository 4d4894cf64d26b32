/- The walk of the law SpBack, over the cut of stage 1. -/
import Derived.Test.YtelkcpgkbahcpaaRg
namespace Go.Proofs.Ytelkcpgkbahcpaa
open Go.RowKit
set_option linter.unusedVariables false

theorem u64_diff (x y b : Int) (hx : inR x) (hy : inR y) (h : y ≤ x) (hb : x - y < b) : IntKind.u64.wrap (IntKind.u64.wrap x - IntKind.u64.wrap y) < b := by
  have e : ∀ n : Int, IntKind.u64.wrap n = n % 18446744073709551616 := fun n => by simp [IntKind.wrap, IntKind.bits, IntKind.signed]
  rw [e, e, e]
  unfold inR at *
  omega

set_option maxHeartbeats 1000000 in
theorem back_core (a b t u d : Int) (s : Int × Bool) (back up down : Bool) (w : World) (ha : inR a) (hb : inR b)
    (c7 : ∀ w, Calls Try.prog 7 #[.int .i64 a, .int .i64 b] w fun e w' => e = .returned (.tuple #[.int .i64 s.1, .bool s.2]) ∧ w = w')
    (c8 : ∀ w, Calls Try.prog 8 #[.int .i64 s.1, .int .i64 b] w fun e w' => e = .returned (.tuple #[.int .i64 t, .bool back]) ∧ w = w')
    (c10 : ∀ w, Calls Try.prog 10 #[.int .i64 a, .int .i64 b] w fun e w' => e = .returned (.tuple #[.int .i64 u, .bool up]) ∧ w = w')
    (c11 : ∀ w, Calls Try.prog 11 #[.int .i64 a, .int .i64 b] w fun e w' => e = .returned (.tuple #[.int .i64 d, .bool down]) ∧ w = w')
    (hok : s.2 = true → back = true ∧ (t != a) = false)
    (hup : up = true → 1 ≤ b ∧ a ≤ u ∧ u.tmod b = 0 ∧ inR u ∧ u - a < b)
    (hdown : down = true → 1 ≤ b ∧ d ≤ a ∧ d.tmod b = 0 ∧ inR d ∧ a - d < b) :
    Calls Try.prog 5 #[.int .i64 a, .int .i64 b] w fun e w' => e = .returned (.bool true) ∧ Below w.heap.size w w' := by
  obtain ⟨s, ok⟩ := s
  have U : up = true → IntKind.u64.wrap (IntKind.u64.wrap u - IntKind.u64.wrap a) < b := fun h => u64_diff _ _ _ (hup h).2.2.2.1 ha (hup h).2.1 (hup h).2.2.2.2
  have D : down = true → IntKind.u64.wrap (IntKind.u64.wrap a - IntKind.u64.wrap d) < b := fun h => u64_diff _ _ _ ha (hdown h).2.2.2.1 (hdown h).2.1 (hdown h).2.2.2.2
  simp only at c7 c8 hok
  cases ok <;> cases up <;> cases down <;> simp only [Bool.false_eq_true, false_implies, forall_const] at hok hup hdown U D
  all_goals
    (try obtain ⟨u1, u2, u3, u4, u5⟩ := hup)
    (try obtain ⟨d1, d2, d3, d4, d5⟩ := hdown)
    (try obtain ⟨rfl, o2⟩ := hok)
    unfold inR at *
    go_enter Try.func5, Try.ntmps5
    go_wp2_with (first
      | (go_at_call 7; refine (c7 _).mono ?_; rintro e w' ⟨rfl, rfl⟩)
      | (go_at_call 8; refine (c8 _).mono ?_; rintro e w' ⟨rfl, rfl⟩)
      | (go_at_call 10; refine (c10 _).mono ?_; rintro e w' ⟨rfl, rfl⟩)
      | (go_at_call 11; refine (c11 _).mono ?_; rintro e w' ⟨rfl, rfl⟩)
      | (go_at_call 19; refine (awake_any _).mono ?_; rintro e w1 ⟨rfl, bw⟩))
    go_ret
    exact ⟨rfl, bw⟩
end Go.Proofs.Ytelkcpgkbahcpaa
