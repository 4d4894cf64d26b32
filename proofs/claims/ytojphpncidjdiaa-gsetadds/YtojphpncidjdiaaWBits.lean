/- The contracts of math/bits (Mul64, Len64, LeadingZeros64) over the cut. -/
import Derived.Test.YtojphpncidjdiaaRows
import Derived.Test.YtojphpncidjdiaaWMath
import Derived.WalkKit
import Derived.Lib.Mul64
import Derived.Lib.BitFns
import Derived.Lib.ItoaNum
import Derived.Laws.Bits64b
namespace Go.Proofs.Ytojphpncidjdiaa
open Go.RowKit
set_option linter.unusedVariables false

theorem n_and (a : Nat) (h : a < 18446744073709551616) : bits .and .u64 (a : Int) 4294967295 = ((a % 4294967296 : Nat) : Int) := by
  rw [show (4294967295 : Int) = ((4294967295 : Nat) : Int) from rfl, bits_and_u64_nat a _ h (by decide)]
  exact congrArg _ (Nat.and_two_pow_sub_one_eq_mod a 32)
theorem n_wrap (a : Nat) (h : a < 18446744073709551616) : IntKind.u64.wrap (a : Int) = a := by rw [IntKind.wrap_u64]; omega
theorem n_wrapm (a : Nat) : IntKind.u64.wrap (a : Int) = ((a % 18446744073709551616 : Nat) : Int) := by rw [IntKind.wrap_u64]; omega
theorem n_half (a : Nat) : (a : Int) / 4294967296 = ((a / 4294967296 : Nat) : Int) := rfl

set_option maxHeartbeats 1000000 in
theorem mul64_any (x y : Nat) (hx : x < 18446744073709551616) (hy : y < 18446744073709551616) (w : World) :
    Calls Try.prog 84 #[.int .u64 x, .int .u64 y] w fun e w' => e = .returned (.tuple #[.int .u64 ((x * y / 18446744073709551616 : Nat) : Int), .int .u64 ((x * y % 18446744073709551616 : Nat) : Int)]) ∧ w = w' := by
  obtain ⟨k0, k1, k2, k3⟩ := Lib.mul64_hi x y hx hy
  have a1 := Lib.half_mul_le (a := x / 4294967296) (b := y / 4294967296) (by omega) (by omega)
  have a2 := Lib.half_mul_le (a := x / 4294967296) (b := y % 4294967296) (by omega) (by omega)
  have a3 := Lib.half_mul_le (a := x % 4294967296) (b := y / 4294967296) (by omega) (by omega)
  go_enter Try.func84, Try.ntmps84
  go_wp2
  go_ret2
  rw [← k3]
  clear k3
  have e : ∀ {a b c d : Int}, a = c → b = d → Ending.returned (.tuple #[.int .u64 a, .int .u64 b]) = Ending.returned (.tuple #[.int .u64 c, .int .u64 d]) := by rintro a b c d rfl rfl; rfl
  refine ⟨e ?_ ?_, rfl⟩
  · simp (disch := omega) only [n_and, n_half, ← Int.natCast_mul, ← Int.natCast_add, n_wrap]
  · rw [← Int.natCast_mul, n_wrapm]
theorem wpList_len8 {ops : Array Oper} {rest : List Oper} {o : Oper} {a : Act} {w : World} {Q : Exit → Act → World → Prop} (hgd : o.guard = none) {C : ByteArray} {x : Operand} (ho : o.op = .index 9 (.const (.string C)) x)
    (hC : C = Lib.len8tab) {i : Int} (hx : a.eval x = .int .u8 i) (h0 : 0 ≤ i) (h1 : i ≤ 255) (h : wpList Try.prog ops Q rest (a.put o.dst (.int .u8 (Lib.len8 i))) w) : wpList Try.prog ops Q (o :: rest) a w := by
  subst hC
  refine wpList_plain hgd fun _ hK => ?_
  unfold Oper.wp execOp
  have hc : a.eval (.const (.string Lib.len8tab)) = .string Lib.len8tab := rfl
  simp only [ho, hx, hc, Sem.run_bind, Lib.run_index_len8tab (P := Try.prog) w 9 .u8 i Try.underlying9 h0 h1, Result.andThen_ok, Sem.run_pure]
  exact hK _ _ h
/-- A number's length by its byte from place k on. -/
theorem len_leaf (x : Int) (k : Nat) (h0 : 0 ≤ x) (h1 : x ≤ 18446744073709551615) (b : Int) (hb : b = x / 2 ^ k) (hb1 : b ≤ 255) (hk : k = 0 ∨ 1 ≤ b) : (k : Int) + Lib.len8 b = Lib.bitLen x.toNat ∧ 0 ≤ Lib.len8 b ∧ Lib.len8 b ≤ 8 := by
  have hp : (0 : Int) < 2 ^ k := Int.pow_pos (by decide)
  have hb0 : 0 ≤ b := by rw [hb]; exact Int.ediv_nonneg h0 (by omega)
  have e := Lib.len8_of b hb0 hb1
  have l := Lib.bitLen_le8' b hb0 hb1
  have en : b.toNat = x.toNat / 2 ^ k := by
    obtain ⟨n, rfl⟩ := Int.eq_ofNat_of_zero_le h0
    rw [hb]; rfl
  refine ⟨?_, by omega, by omega⟩
  rw [e, en]
  rcases hk with rfl | hk
  · simp
  · have h2 : 2 ^ k ≤ x.toNat := by
      have : 1 ≤ x.toNat / 2 ^ k := by omega
      exact (Nat.one_le_div_iff (Nat.two_pow_pos k)).1 this
    have := Lib.bitLen_shift k x.toNat h2 (by omega)
    omega
set_option maxHeartbeats 4000000 in
set_option maxRecDepth 100000 in
theorem len64_any (x : Int) (h0 : 0 ≤ x) (h1 : x ≤ 18446744073709551615) (w : World) :
    Calls Try.prog 91 #[.int .u64 x] w fun e w' => e = .returned (.int .i64 (Lib.bitLen x.toNat)) ∧ w = w' := by
  go_enter Try.func91, Try.ntmps91
  go_wp2_with (refine wpList_len8 rfl rfl (by kernel_rfl) rfl (by omega) (by omega) ?_)
  all_goals go_ret
  all_goals refine ⟨congrArg Ending.returned (congrArg (Value.int IntKind.i64) ?_), rfl⟩
  all_goals first
    | (have l := len_leaf x 56 h0 h1 (x / 4294967296 / 65536 / 256) (by omega) (by omega) (by omega); unfold wrap64; omega)
    | (have l := len_leaf x 48 h0 h1 (x / 4294967296 / 65536) (by omega) (by omega) (by omega); unfold wrap64; omega)
    | (have l := len_leaf x 40 h0 h1 (x / 4294967296 / 256) (by omega) (by omega) (by omega); unfold wrap64; omega)
    | (have l := len_leaf x 32 h0 h1 (x / 4294967296) (by omega) (by omega) (by omega); unfold wrap64; omega)
    | (have l := len_leaf x 24 h0 h1 (x / 65536 / 256) (by omega) (by omega) (by omega); unfold wrap64; omega)
    | (have l := len_leaf x 16 h0 h1 (x / 65536) (by omega) (by omega) (by omega); unfold wrap64; omega)
    | (have l := len_leaf x 8 h0 h1 (x / 256) (by omega) (by omega) (by omega); unfold wrap64; omega)
    | (have l := len_leaf x 0 h0 h1 (x) (by omega) (by omega) (by omega); unfold wrap64; omega)
theorem len_bd (x : Nat) (h0 : 0 < x) (h1 : x < 18446744073709551616) : 1 ≤ Lib.bitLen x ∧ Lib.bitLen x ≤ 64 ∧ 2 ^ (Lib.bitLen x - 1) ≤ x ∧ x < 2 ^ Lib.bitLen x := by
  obtain ⟨a, b, c⟩ := Lib.bitLenAux_bounds 64 x h1 (by omega)
  exact ⟨a, Lib.bitLen_le x 64 (Nat.le_refl _) h1, b, c⟩
theorem lz64_any (x : Nat) (h0 : 0 < x) (hx : x < 18446744073709551616) (w : World) :
    Calls Try.prog 85 #[.int .u64 x] w fun e w' => e = .returned (.int .i64 ((64 - Lib.bitLen x : Nat) : Int)) ∧ w = w' := by
  have hl := len_bd x h0 hx
  go_enter Try.func85, Try.ntmps85
  go_wp2_with (go_at_call 91; refine (len64_any _ (by omega) (by omega) _).mono ?_; rintro e w' ⟨rfl, rfl⟩; rw [Int.toNat_natCast])
  go_ret
  exact ⟨congrArg Ending.returned (congrArg (Value.int IntKind.i64) (by omega)), rfl⟩
end Go.Proofs.Ytojphpncidjdiaa
