/- The walks of the laws of stage 4. -/
import Derived.Test.YtofellaihiclkaaCLeast
import Derived.Deep.RegionHeld3
namespace Go.Proofs.Ytofellaihiclkaa
open Go.RowKit
set_option linter.unusedVariables false

theorem add_awake (w : World) : Calls Try.prog 7 #[.agg #[.int .i64 1, .int .i64 5], .agg #[.int .i64 0, .int .i64 7]] w fun e w' => e = .returned (.agg #[.int .i64 1, .int .i64 12]) ∧ Below w.heap.size w w' :=
  Add_any (1, 5) (0, 7) w
theorem less_awake (w : World) : Calls Try.prog 11 #[.agg #[.int .i64 0, .int .i64 99], .agg #[.int .i64 1, .int .i64 0]] w fun e w' => e = .returned (.bool true) ∧ Below w.heap.size w w' :=
  Less_any (0, 99) (1, 0) w
theorem least_awake (b : Nat) (w : World) (hb : b < w.heap.size) (h0 : w.cell? ⟨b, 0, none⟩ = some (.int .i64 1)) (h1 : w.cell? ⟨b, 1, none⟩ = some (.int .i64 0)) (h2 : w.cell? ⟨b, 2, none⟩ = some (.int .i64 0)) (h3 : w.cell? ⟨b, 3, none⟩ = some (.int .i64 9)) :
    Calls Try.prog 19 #[.slice (some ⟨b, 0, none⟩) 2 2] w fun e w' => e = .returned (.int .i64 1) ∧ Below w.heap.size w w' :=
  Least_any (some ⟨b, 0, none⟩) 2 2 [(1, 0), (0, 9)] w rfl (by decide) fun k hk => by
    refine ⟨b, 0, rfl, hb, ?_⟩
    match k, hk with
    | 0, _ => exact ⟨h0, h1⟩
    | 1, _ => exact ⟨h2, h3⟩
theorem awake_any (w : World) : Calls Try.prog 6 #[] w fun e w' => e = .returned (.bool true) ∧ Below w.heap.size w w' := by
  go_enter Try.func6, Try.ntmps6
  go_wp2_with fail
  refine (add_awake _).mono ?_
  rintro e w1 ⟨rfl, b1⟩
  go_wp2_with fail
  refine (less_awake _).mono ?_
  rintro e w2 ⟨rfl, b2⟩
  go_wp2_with fail
  refine (least_awake _ _ (by simp) (by simp) (by simp) (by simp) (by simp)).mono ?_
  rintro e w3 ⟨rfl, b3⟩
  go_wp2
  go_ret
  exact ⟨rfl, (bstep b1 b2 b1.size).trans (((bel1 w2 _).trans (b3.mono (by simp))).mono (Nat.le_trans b1.size b2.size))⟩

end Go.Proofs.Ytofellaihiclkaa
