/- The walks of 'awake', WideBack and WideShares over the cut of stage 2. -/
import Derived.Test.YtojphpncidjdiaaWRat
import Derived.Deep.RegionHeld3
namespace Go.Proofs.Ytojphpncidjdiaa
open Go.RowKit
set_option linter.unusedVariables false

theorem still_cell {x y : World} (h : Below x.heap.size x y) (g k : Nat) (hg : g < x.heap.size) : y.cell? ⟨g, k, none⟩ = x.cell? ⟨g, k, none⟩ := h.cell (p := ⟨g, k, none⟩) hg
theorem still_mark {x y : World} (h : Below x.heap.size x y) (g k : Nat) (hg : g < x.heap.size) : y.frozen? ⟨g, k, none⟩ = x.frozen? ⟨g, k, none⟩ := h.frozen (p := ⟨g, k, none⟩) hg
theorem rat_awake (w : World) : Calls Try.prog 44 #[.int .i64 10, .int .i64 10, .int .i64 3] w fun e w' => e = .returned (.tuple #[.int .i64 33, .bool true]) ∧ Below w.heap.size w w' :=
  ratio_any 10 10 3 w (by decide) (by decide) (by decide)
theorem mul_awake (w : World) : Calls Try.prog 76 #[.int .u64 9223372036854775808, .int .u64 6] w fun e w' => e = .returned (.agg #[.int .u64 3, .int .u64 0]) ∧ Below w.heap.size w w' :=
  wmul_any 9223372036854775808 6 w (by decide) (by decide)
/-! ### WideShares -/
theorem rat_in (a b c : Int) (ha : 0 ≤ a) (hb : 0 ≤ b) (hc : 1 ≤ c) (hbc : b ≤ c) (hm : a ≤ 9223372036854775807) : ratR a b c = (a * b / c, true) ∧ a * b / c ≤ a := by
  have h : a * b / c ≤ a := Int.ediv_le_of_le_mul (by omega) (Int.mul_le_mul_of_nonneg_left hbc ha)
  exact ⟨by rw [ratR, if_neg (by omega), if_pos (by omega)], h⟩
theorem i64_le {a : Int} (h : (Lit.int .i64 a).wf = true) : a ≤ 9223372036854775807 := by
  simp [Lit.wf, IntKind.min, IntKind.max, IntKind.signed, IntKind.bits] at h
  omega
/-! ### WideBack -/
theorem u64_nat {a : Int} (h : (Lit.int .u64 a).wf = true) : ∃ n : Nat, a = n ∧ n < 18446744073709551616 := by
  simp [Lit.wf, IntKind.min, IntKind.max, IntKind.signed, IntKind.bits] at h
  exact ⟨a.toNat, by omega, by omega⟩
end Go.Proofs.Ytojphpncidjdiaa
