/- Bits 1 and 2 of a number. Nothing of a program is in it. -/
import Derived.WalkKit
namespace Go.Proofs.Ytniipfpfilenmaa

theorem nat_and2 (n : Nat) : n &&& 2 = n / 2 % 2 * 2 := by
  have h1 : (n &&& 2) / 2 = n / 2 % 2 := by
    rw [Nat.and_div_two]
    exact Nat.and_one_is_mod _
  have h2 : (n &&& 2) % 2 = 0 := by
    have := Nat.and_mod_two_pow (a := n) (b := 2) (n := 1)
    simpa using this
  omega
theorem ofInt_nat (p : Int) : ((BitVec.ofInt 64 p).toNat : Int) = p % 18446744073709551616 := by
  rw [BitVec.toNat_ofInt]
  have : (0 : Int) ≤ p % 18446744073709551616 := Int.emod_nonneg _ (by omega)
  simp
  omega
theorem and_1 (p : Int) : bits .and .i64 p 1 = p % 2 := by
  show IntKind.i64.wrap ((BitVec.ofInt 64 p &&& BitVec.ofInt 64 1).toNat : Int) = _
  have h := ofInt_nat p
  rw [BitVec.toNat_and, show (BitVec.ofInt 64 1).toNat = 1 by decide, Nat.and_one_is_mod, IntKind.wrap_i64]
  omega
theorem and_2 (p : Int) : bits .and .i64 p 2 = p / 2 % 2 * 2 := by
  show IntKind.i64.wrap ((BitVec.ofInt 64 p &&& BitVec.ofInt 64 2).toNat : Int) = _
  have h := ofInt_nat p
  rw [BitVec.toNat_and, show (BitVec.ofInt 64 2).toNat = 2 by decide, nat_and2, IntKind.wrap_i64]
  omega
end Go.Proofs.Ytniipfpfilenmaa
