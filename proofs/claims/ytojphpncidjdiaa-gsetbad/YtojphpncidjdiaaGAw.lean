/- The laws' awake of layer 9. -/
import Derived.Test.YtojphpncidjdiaaGOf
import Derived.Test.YtojphpncidjdiaaGBad
import Derived.Test.YtojphpncidjdiaaGSzA
namespace Go.Proofs.Ytojphpncidjdiaa
open Go.RowKit
set_option maxRecDepth 20000
set_option linter.unusedVariables false
set_option linter.unusedSimpArgs false

theorem aw_of : ofG ⟨10, 4, 0, 0, 0, 0⟩ 12 false = ⟨1, 0, 2, 4, 0⟩ := by
  simp [ofG, rightG, soundT, fitB, widenG, ordT, strT]
theorem aw_bad : badG ⟨1, 0, 2, 4, 0⟩ 0 false = 12 := by decide
theorem aw_sizes : sizesG ⟨1, 0, 2, 4, 0⟩ [⟨3, 4, 0, 0, 0, 0⟩] = [5] := by decide
set_option maxHeartbeats 1000000 in
theorem awake9 (w : World) : Calls Try.prog 11 #[] w fun e w' => e = .returned (.bool true) ∧ Below w.heap.size w w' := by
  have c9 := g_of_any ⟨10, 4, 0, 0, 0, 0⟩ 12 false
  rw [aw_of] at c9
  have c12 := fun w => bad_any ⟨1, 0, 2, 4, 0⟩ 0 false w (by unfold inS inR; dsimp only; omega) (by dsimp only; omega)
  rw [aw_bad] at c12
  have c15 := fun a w => sizes_any ⟨1, 0, 2, 4, 0⟩ a 1 [⟨3, 4, 0, 0, 0, 0⟩] w (by decide)
  rw [aw_sizes] at c15
  unfold stg tot at c9
  unfold stg at c12 c15
  dsimp only at c9 c12 c15
  go_enter Try.func11, Try.ntmps11
  go_wp2_with fail
  refine (c9 _).mono ?_
  rintro e w1 ⟨rfl, b1⟩
  have b0 := tstep (tbel1 w (.cells #[.int .i64 10, .int .i64 4, .int .i64 0, .int .i64 0, .int .i64 0, .int .i64 0] 25)) b1 (by simp)
  clear b1 c9
  go_wp2_with fail
  have S1 := (blk_new w1 #[.int .i64 1, .int .i64 0, .int .i64 2, .int .i64 4, .int .i64 0] 28).alloc (.cells #[.int .i64 3, .int .i64 4, .int .i64 0, .int .i64 0, .int .i64 0, .int .i64 0] 25)
  have G1 := blk_two w1 (.cells #[.int .i64 1, .int .i64 0, .int .i64 2, .int .i64 4, .int .i64 0] 28) #[.int .i64 3, .int .i64 4, .int .i64 0, .int .i64 0, .int .i64 0, .int .i64 0] 25
  replace b0 := (b0.alloc b0.size (.cells #[.int .i64 1, .int .i64 0, .int .i64 2, .int .i64 4, .int .i64 0] 28)).alloc (Nat.le_trans b0.size (by simp)) (.cells #[.int .i64 3, .int .i64 4, .int .i64 0, .int .i64 0, .int .i64 0, .int .i64 0] 25)
  refine (c15 (some ⟨w1.heap.size + 1, 0, none⟩) _ ?row).mono ?_
  case row =>
    intro k hk
    have hk0 : k = 0 := by simp at hk; omega
    subst hk0
    have f := G1.six
    exact ⟨by simp [inT, inR], w1.heap.size + 1, 0, rfl, G1.lt, f.1, f.2.1, f.2.2.1, f.2.2.2.1, f.2.2.2.2.1, f.2.2.2.2.2⟩
  rintro e w2 ⟨v, rfl, ho, b2⟩
  obtain ⟨va, vc, rfl, _, _, hrow⟩ := ho.row
  obtain ⟨_, bb, off, rfl, hB, hc⟩ := hrow 0 (by decide)
  have f1 := (S1.old b2).five
  replace b0 := tstep b0 b2 b0.size
  clear b2 c15 S1 G1 hrow ho
  rw [Nat.add_zero] at hc
  go_wp2_with (with_reducible refine (c12 _).mono ?_; rintro e w3 ⟨rfl, b3⟩; have hc3 := (b3.cell (p := ⟨bb, off, none⟩) hB).trans hc)
  go_ret
  exact ⟨rfl, tstep b0 b3 b0.size⟩
end Go.Proofs.Ytojphpncidjdiaa
