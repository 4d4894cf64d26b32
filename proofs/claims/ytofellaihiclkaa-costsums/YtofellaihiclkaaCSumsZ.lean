/- CostSums holds of every input: the walk at the list. -/
import Derived.Test.YtofellaihiclkaaCSums
import Derived.Test.YtofellaihiclkaaFPairs
namespace Go.Proofs.Ytofellaihiclkaa
open Go.RowKit
set_option linter.unusedVariables false

theorem sums_long (ad : Option Addr) (n cap : Nat) (w : World) (h : 100 < n) (h' : n ≤ 9223372036854775807) :
    Calls Try.prog 4 #[.slice ad n cap] w fun e w' => e = .returned (.bool true) ∧ Below w.heap.size w w' := by
  go_enter Try.func4, Try.ntmps4
  go_wp2_with fail
  refine (awake_any _).mono ?_
  rintro e w4 ⟨rfl, b4⟩
  go_wp2
  go_ret
  exact ⟨rfl, b4⟩
theorem sums_n (a : Option Addr) (n cap : Nat) (l : List (Int × Int)) (w : World) (hl : l.length = n) (hn : n ≤ 100) (hcap : n ≤ cap) (hr : CRow w a l) :
    Calls Try.prog 4 #[.slice a n cap] w fun e w' => e = .returned (.bool true) ∧ Below w.heap.size w w' := by
  subst hl; exact sums_walk a cap l w hn hcap hr
theorem costSums_walk (a : Option Addr) (n cap : Nat) (zs : List (Int × Int)) (w : World) (h : IsPairs .i64 .i64 w a n cap zs) :
    Calls Try.prog 4 #[.slice a n cap] w fun e w' => e = .returned (.bool true) ∧ Below w.heap.size w w' := by
  rcases h with ⟨rfl, rfl, rfl, rfl⟩ | ⟨x, rfl, hl, hm, hz, hall⟩
  · exact sums_n none 0 0 [] w rfl (by omega) (by omega) fun k hk => absurd hk (by simp)
  · by_cases hn : n ≤ 100
    · refine sums_n (some x) n cap zs w hz hn hl fun k hk => ?_
      obtain ⟨g0, g1, _, _⟩ := hall k (by omega)
      have g00 := (hall 0 (by omega)).1
      obtain ⟨b, off, spot⟩ := x
      have hspot : spot = none := by simpa [Addr.add] using World.cell?_spot g00
      subst hspot
      rw [Go.WideShapes.add_plain] at g0 g1
      exact ⟨b, off, rfl, World.block_lt_of_cell? _ _ g0, g0, g1⟩
    · unfold maxLen at hm
      exact sums_long _ _ _ w (by omega) (by omega)
end Go.Proofs.Ytofellaihiclkaa
