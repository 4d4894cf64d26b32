/- Fold, Unfold (package chain's and the document's) and Size. -/
import Derived.Test.YthglidbhabknkaaRows
import Derived.Test.YthglidbhabknkaaVMath
import Derived.Test.YthglidbhabknkaaWBits
import Derived.Laws.BitsAllLaws
import Derived.Laws.Bits128
namespace Go.Proofs.Ythglidbhabknkaa
open Go.RowKit
set_option linter.unusedVariables false

theorem xor_ones (a : Int) (h0 : 0 ≤ a) (h1 : a < 18446744073709551616) : bits .xor .u64 a 18446744073709551615 = 18446744073709551615 - a := by
  obtain ⟨a, rfl⟩ := Int.eq_ofNat_of_zero_le h0
  show IntKind.u64.wrap ((BitVec.ofInt 64 (a : Int) ^^^ BitVec.ofInt 64 18446744073709551615).toNat : Int) = _
  have e : BitVec.ofInt 64 18446744073709551615 = BitVec.allOnes 64 := by decide
  rw [e, BitVec.xor_allOnes, BitVec.toNat_not, ofInt_u64 a (by omega), IntKind.wrap_u64]
  omega
theorem xor_zero64 (a : Int) (h0 : 0 ≤ a) (h1 : a < 18446744073709551616) : bits .xor .u64 a 0 = a := by
  obtain ⟨a, rfl⟩ := Int.eq_ofNat_of_zero_le h0
  rw [show (0 : Int) = ((0 : Nat) : Int) from rfl, u64_xor_nat a 0 (by omega) (by decide)]
  simp
theorem ixor_ones (a : Int) (h0 : 0 ≤ a) (h1 : a < 9223372036854775808) : bits .xor .i64 a (-1) = -1 - a := by
  obtain ⟨a, rfl⟩ := Int.eq_ofNat_of_zero_le h0
  show IntKind.i64.wrap ((BitVec.ofInt 64 (a : Int) ^^^ BitVec.ofInt 64 (-1)).toNat : Int) = _
  have e : BitVec.ofInt 64 (-1) = BitVec.allOnes 64 := by decide
  rw [e, BitVec.xor_allOnes, BitVec.toNat_not, ofInt_u64 a (by omega), IntKind.wrap_i64]
  omega
theorem ixor_zero (a : Int) (h0 : 0 ≤ a) (h1 : a < 9223372036854775808) : bits .xor .i64 a 0 = a := by
  obtain ⟨a, rfl⟩ := Int.eq_ofNat_of_zero_le h0
  show IntKind.i64.wrap ((BitVec.ofInt 64 (a : Int) ^^^ BitVec.ofInt 64 0).toNat : Int) = _
  have e : BitVec.ofInt 64 0 = 0#64 := by decide
  rw [e, BitVec.xor_zero, ofInt_u64 a (by omega), IntKind.wrap_i64]
  omega
theorem and_one (a : Int) (h0 : 0 ≤ a) (h1 : a < 18446744073709551616) : bits .and .u64 a 1 = a % 2 := by
  obtain ⟨a, rfl⟩ := Int.eq_ofNat_of_zero_le h0
  rw [show (1 : Int) = ((1 : Nat) : Int) from rfl, bits_and_u64_nat a 1 (by omega) (by decide)]
  have := Nat.and_two_pow_sub_one_eq_mod a 1
  simp only [Nat.reduceSub, Nat.reducePow] at this
  omega
theorem or_one64 (a : Int) (h0 : 0 ≤ a) (h1 : a < 18446744073709551616) : bits .or .u64 a 1 = a / 2 * 2 + 1 := by
  obtain ⟨a, rfl⟩ := Int.eq_ofNat_of_zero_le h0
  rw [show (1 : Int) = ((1 : Nat) : Int) from rfl, u64_or_nat a 1 (by omega) (by decide)]
  have h := Nat.two_pow_add_eq_or_of_lt (i := 1) (b := 1) (by decide) (a / 2)
  have e : a ||| 1 = a / 2 * 2 + 1 := by
    rcases Nat.mod_two_eq_zero_or_one a with h2 | h2
    · have : a = 2 ^ 1 * (a / 2) := by omega
      rw [this, ← h]; omega
    · apply Nat.eq_of_testBit_eq
      intro i
      have hb : a = 2 ^ 1 * (a / 2) ||| 1 := by rw [← h]; omega
      rw [show a / 2 * 2 + 1 = a by omega]
      rw [hb, Nat.or_assoc, Nat.or_self]
  omega

theorem fold_any (n : Int) (h0 : -9223372036854775808 ≤ n) (h1 : n ≤ 9223372036854775807) (w : World) :
    Calls Try.prog 44 #[.int .i64 n] w fun e w' => e = .returned (.int .u64 (foldZ n)) ∧ w = w' := by
  have k : bits .xor .u64 (IntKind.u64.wrap (IntKind.u64.wrap n * 2)) (IntKind.u64.wrap (n / 9223372036854775808)) = foldZ n := by
    rw [IntKind.wrap_u64, IntKind.wrap_u64, IntKind.wrap_u64]
    unfold foldZ
    split
    · rw [show n / 9223372036854775808 % 18446744073709551616 = 18446744073709551615 by omega, xor_ones _ (by omega) (by omega)]
      omega
    · rw [show n / 9223372036854775808 % 18446744073709551616 = 0 by omega, xor_zero64 _ (by omega) (by omega)]
      omega
  rw [← k]
  clear k
  go_enter Try.func44, Try.ntmps44
  go_wp2
  go_ret
  exact ⟨rfl, rfl⟩
theorem rfold_any (n : Int) (h0 : -9223372036854775808 ≤ n) (h1 : n ≤ 9223372036854775807) (w : World) :
    Calls Try.prog 42 #[.int .i64 n] w fun e w' => e = .returned (.int .u64 (foldZ n)) ∧ w = w' := by
  rcases Int.lt_or_le n 0 with h | h
  · rw [show foldZ n = 2 * -(n + 1) + 1 by unfold foldZ; rw [if_pos h]; omega]
    go_enter Try.func42, Try.ntmps42
    go_wp2
    go_ret
    exact ⟨rfl, rfl⟩
  · rw [show foldZ n = 2 * n by unfold foldZ; rw [if_neg (by omega)]]
    go_enter Try.func42, Try.ntmps42
    go_wp2
    go_ret
    exact ⟨rfl, rfl⟩
/-- The number of bytes by the length in bits. -/
theorem size_len (u : Int) (h0 : 0 ≤ u) (h1 : u ≤ 18446744073709551615) :
    1 ≤ Lib.bitLen (u / 2 * 2 + 1).toNat ∧ Lib.bitLen (u / 2 * 2 + 1).toNat ≤ 64 ∧ ((chainL u).length : Int) = ((Lib.bitLen (u / 2 * 2 + 1).toNat : Int) + 6) / 7 := by
  obtain ⟨x, hx⟩ : ∃ x : Nat, u / 2 * 2 + 1 = (x : Int) := ⟨(u / 2 * 2 + 1).toNat, by omega⟩
  rw [hx, Int.toNat_natCast]
  obtain ⟨l1, l2, l3, l4⟩ := len_bd x (by omega) (by omega)
  refine ⟨l1, l2, ?_⟩
  have key : ∀ k : Nat, 2 ^ (7 * k) ≤ x → x < 2 ^ (7 * k + 7) → (chainL u).length = k + 1 := by
    intro k a b
    have e : ∀ j : Nat, (128 : Int) ^ j = ((2 ^ (7 * j) : Nat) : Int) := by
      intro j
      rw [Nat.pow_mul]
      simp
    refine chain_len k u h0 ?_ ?_
    · rw [e, show 7 * (k + 1) = 7 * k + 7 by omega]
      have h2 : 2 ^ (7 * k + 7) = 2 * 2 ^ (7 * k + 6) := by rw [show 7 * k + 7 = (7 * k + 6) + 1 by omega, Nat.pow_succ]; omega
      omega
    · rcases Nat.eq_zero_or_pos k with hk | hk
      · exact .inl hk
      · right
        rw [e]
        have h2 : 2 ^ (7 * k) = 2 * 2 ^ (7 * k - 1) := by
          have h3 := Nat.pow_succ (n := 2) (m := 7 * k - 1)
          rw [show (7 * k - 1).succ = 7 * k by omega] at h3
          omega
        omega
  generalize Lib.bitLen x = b at *
  have hk := key ((b - 1) / 7) (Nat.le_trans (Nat.pow_le_pow_right (by decide) (by omega)) l3) (Nat.lt_of_lt_of_le l4 (Nat.pow_le_pow_right (by decide) (by omega)))
  rw [hk]
  omega
theorem size_any (n : Int) (h0 : -9223372036854775808 ≤ n) (h1 : n ≤ 9223372036854775807) (w : World) :
    Calls Try.prog 43 #[.int .i64 n] w fun e w' => e = .returned (.int .i64 ((chainL (foldZ n)).length : Int)) ∧ w = w' := by
  obtain ⟨f0, f1⟩ := fold_range n h0 h1
  have cf := fold_any n h0 h1
  generalize foldZ n = u at *
  have k := or_one64 u f0 (by omega)
  obtain ⟨s1, s2, s3⟩ := size_len u f0 f1
  have cl := len64_any (u / 2 * 2 + 1) (by omega) (by omega)
  rw [← k] at cl
  rw [s3, ← k]
  rw [← k] at s1 s2
  generalize Lib.bitLen (bits .or .u64 u 1).toNat = L at *
  clear k s3
  go_enter Try.func43, Try.ntmps43
  go_wp2_with (first | (with_reducible refine (cf _).mono ?_; rintro e w' ⟨rfl, rfl⟩) | (with_reducible refine (cl _).mono ?_; rintro e w' ⟨rfl, rfl⟩))
  go_ret
  exact ⟨congrArg Ending.returned (congrArg (Value.int IntKind.i64) (show ((L : Int) + 7 - 1) / 7 = _ by omega)), rfl⟩
end Go.Proofs.Ythglidbhabknkaa
